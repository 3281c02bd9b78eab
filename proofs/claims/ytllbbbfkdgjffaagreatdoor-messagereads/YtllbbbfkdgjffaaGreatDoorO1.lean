/-
  Proved here: what the writer's methods bytes, number, count, short do, and must: bytes are put behind what was written, or the writer is told to be too long. Conditions: a number's bytes are at most 8.
-/
/-
  Proved here: the rows' list of variables gives the two tables; a slice that comes in holds what its cells read as (open_lst, for any kind of thing), within the reach of every row; so do a slice of bytes, rules' copies, held rules, and a message's slices (open_msg). No further condition.
-/
import Derived.Test.YtllbbbfkdgjffaaGreatDoorV1
import Derived.Test.YtllbbbfkdgjffaaGreatDoorRows
import Derived.Test.YtllbbbfkdgjffaaGreatDoorCards
import Derived.Test.YtllbbbfkdgjffaaGreatDoorTie
import Derived.WalkKit
import Derived.ProofKit
import Derived.OpenShut
import Derived.ChangeSame
import Derived.LaidMore
import Derived.Stop.LaidErr
import Derived.Deep.DeepHandedRow
import Derived.Deep.Slices
import Derived.Lib.LaidTab
import Derived.SizedLaws
import Derived.Carry
namespace Go.Proofs.YtllbbbfkdgjffaaGreatDoor
open Go.RowKit

theorem hid {p : Prop} (h : p) : Hid p := h
/-- The tables' cells: block 0 the fields' bytes, block 1 the widths. -/
def Tab (w : World) : Prop := (∀ k : Nat, k < 11 → w.cell? ⟨0, k, none⟩ = some (.int .i64 (sz k))) ∧ ∀ k : Nat, k < 11 → w.cell? ⟨1, k, none⟩ = some (.int .i64 (wid k))
theorem Tab.of {w w' : World} (h : Tab w) (h0 : w'.heap[0]? = w.heap[0]?) (h1 : w'.heap[1]? = w.heap[1]?) : Tab w' := by
  refine ⟨fun k hk => ?_, fun k hk => ?_⟩
  · rw [cell_same h0]; exact h.1 k hk
  · rw [cell_same h1]; exact h.2 k hk
theorem Tab.pos {w : World} (h : Tab w) : 1 < w.heap.size := cell_lt (h.2 0 (by omega))
theorem Tab.on {w w' : World} (h : Tab w) (hb : Below w.heap.size w w') : Tab w' := h.of (hb.block 0 (by have := h.pos; omega)) (hb.block 1 h.pos)
/-- Which blocks may turn: those of S, and c. -/
abbrev OS (c : Nat) (S : Nat → Prop) : Nat → Prop := fun k => k = c ∨ S k
structure Gd (S : Nat → Prop) (c : Nat) (w : World) : Prop where
  tab : Tab w
  fresh : Fresh S w
  two : ∀ k, S k → 2 ≤ k
  cur : 2 ≤ c
  out : ¬ S c
  lt : c < w.heap.size
theorem Gd.on {S : Nat → Prop} {c : Nat} {w w' : World} (h : Gd S c w) (ho : Only (OS c S) w w') : Gd S c w' := by
  have q : ∀ k, k < 2 → w'.heap[k]? = w.heap[k]? := fun k hk => ho.block k (by rintro (e | e); have := h.cur; omega; have := h.two k e; omega)
  exact ⟨h.tab.of (q 0 (by omega)) (q 1 (by omega)), h.fresh.on ho.size, h.two, h.cur, h.out, Nat.lt_of_lt_of_le h.lt ho.size⟩
/-- Block c is a writer's: xs was written so far, at least m bytes of it are kept; what is kept lies in a block of S. -/
structure Wt (S : Nat → Prop) (w : World) (c m : Nat) (xs : List Int) : Prop where
  gd : Gd S c w
  ex : ∃ v l ys, w.heap[c]? = some (.cells #[v, .bool l] 50 (0, 0)) ∧ Owns 0 w v ys ∧ (∀ k, v.ownBlock = some k → S k) ∧ IsB ys ∧ ys.length ≤ 8192 ∧ m ≤ ys.length ∧ (l = false → ys = xs) ∧ (l = true → 8192 < xs.length)

/-- The panic with ErrMessage. -/
abbrev PC : List PanicEntry := [{ v := .iface 38 (.int .i64 70), recovered := false }]
theorem must_true (w : World) : Calls Tryz.prog 30 #[.bool true] w fun e w' => e = .returned (.tuple #[]) ∧ w' = w := by
  go_enter Tryz.func30, Tryz.ntmps30
  go_wp2
  first | go_end0 | refine bodyPost_ret (results_none rfl _ _ _) rfl ?_
  exact ⟨rfl, rfl⟩
theorem must_false (w : World) : Calls Tryz.prog 30 #[.bool false] w fun e w' => e = .panicked PC ∧ w' = w := by
  go_enter Tryz.func30, Tryz.ntmps30
  go_wp2
  exact ⟨rfl, rfl, rfl⟩

theorem two_cells {w : World} {c : Nat} {x y : Value} {t : TypeId} (h : w.heap[c]? = some (.cells #[x, y] t (0, 0))) :
    w.cell? ⟨c, 0, none⟩ = some x ∧ w.cell? ⟨c, 1, none⟩ = some y ∧ w.frozen? ⟨c, 0, none⟩ = false ∧ w.frozen? ⟨c, 1, none⟩ = false := by
  refine ⟨?_, ?_, ?_, ?_⟩
  · rw [cell_of_row w c 0 _ _ _ h]; rfl
  · rw [cell_of_row w c 1 _ _ _ h]; rfl
  · simp [World.frozen?, h]
  · simp [World.frozen?, h]
theorem two_set0 {w : World} {c : Nat} {x y : Value} {t : TypeId} (h : w.heap[c]? = some (.cells #[x, y] t (0, 0))) (z : Value) : (w.setCell ⟨c, 0, none⟩ z).heap[c]? = some (.cells #[z, y] t (0, 0)) := by
  rw [heap_setCell_same w c 0 _ t _ h]; rfl
theorem two_set1 {w : World} {c : Nat} {x y : Value} {t : TypeId} (h : w.heap[c]? = some (.cells #[x, y] t (0, 0))) (z : Value) : (w.setCell ⟨c, 1, none⟩ z).heap[c]? = some (.cells #[x, z] t (0, 0)) := by
  rw [heap_setCell_same w c 1 _ t _ h]; rfl

/-- What the call owns stays, if its block does. -/
theorem owns_carry {w w' : World} {v : Value} {ys : List Int} (h : Owns 0 w v ys) (hk : ∀ k, v.ownBlock = some k → w'.heap[k]? = w.heap[k]?) : Owns 0 w' v ys := by
  refine ⟨h.1, ?_⟩
  rcases h.2 with h | ⟨g, cap, cur, e, h1, h2, h3⟩
  · exact Or.inl h
  · refine Or.inr ⟨g, cap, cur, e, h1, ?_, h3⟩
    rw [hk g (by rw [e]; rfl)]; exact h2

/-- What was done to a writer's own slice. -/
theorem Wt.put {S : Nat → Prop} {w w1 : World} {c m : Nat} {v v1 : Value} {xs ys bs : List Int} (gd : Gd S c w) (hc : w.heap[c]? = some (.cells #[v, .bool false] 50 (0, 0))) (hv : ∀ k, v.ownBlock = some k → S k) (hE : Ext 0 w v w1 v1 (ys ++ bs)) (hB : IsB ys) (hb : IsB bs) (hl : (ys ++ bs).length ≤ 8192) (hm : m ≤ ys.length) (he : ys = xs) :
    Only (OS c S) w (w1.setCell ⟨c, 0, none⟩ v1) ∧ Wt S (w1.setCell ⟨c, 0, none⟩ v1) c m (xs ++ bs) := by
  have hcv : v.ownBlock ≠ some c := fun e => gd.out (hv c e)
  have ho : Only (OS c S) w w1 := by
    refine ⟨hE.grown.os, hE.grown.tape, hE.grown.output, hE.grown.size, fun k hk => ?_⟩
    rcases Nat.lt_or_ge k w.heap.size with h | h
    · exact hE.grown.block k h (fun e => hk (Or.inr (hv k e.symm)))
    · exact absurd (Or.inr (gd.fresh k h)) hk
  have ho2 : Only (OS c S) w (w1.setCell ⟨c, 0, none⟩ v1) := ho.setCell (p := ⟨c, 0, none⟩) (Or.inl rfl) v1
  have hS1 : ∀ k, v1.ownBlock = some k → S k := fun k hk => by
    rcases Nat.lt_or_ge k w.heap.size with h | h
    · exact hv k (hE.same k hk h)
    · exact gd.fresh k h
  have hc1 : w1.heap[c]? = some (.cells #[v, .bool false] 50 (0, 0)) := by
    rw [hE.grown.block c gd.lt (fun e => hcv e.symm)]; exact hc
  refine ⟨ho2, gd.on ho2, v1, false, ys ++ bs, two_set0 hc1 v1, owns_carry hE.own (fun k hk => ?_), hS1, hB.app hb, hl, by rw [List.length_append]; omega, fun _ => by rw [he], fun h => by cases h⟩
  exact heap_setCell_other w1 ⟨c, 0, none⟩ k v1 (fun e => gd.out (by have e' : k = c := e; rw [← e']; exact hS1 k hk))
theorem Wt.mark {S : Nat → Prop} {w : World} {c m : Nat} {v : Value} {xs ys bs : List Int} {l : Bool} (gd : Gd S c w) (hc : w.heap[c]? = some (.cells #[v, .bool l] 50 (0, 0))) (hw : Owns 0 w v ys) (hv : ∀ k, v.ownBlock = some k → S k) (hB : IsB ys) (hl : ys.length ≤ 8192) (hm : m ≤ ys.length) (h : 8192 < (xs ++ bs).length) :
    Only (OS c S) w (w.setCell ⟨c, 1, none⟩ (.bool true)) ∧ Wt S (w.setCell ⟨c, 1, none⟩ (.bool true)) c m (xs ++ bs) := by
  have ho2 : Only (OS c S) w (w.setCell ⟨c, 1, none⟩ (.bool true)) := (Only.refl _ _).setCell (p := ⟨c, 1, none⟩) (Or.inl rfl) _
  refine ⟨ho2, gd.on ho2, v, true, ys, two_set1 hc _, owns_carry hw (fun k hk => ?_), hv, hB, hl, hm, (fun h => by cases h), fun _ => h⟩
  exact heap_setCell_other w ⟨c, 1, none⟩ k _ (fun e => gd.out (by have e' : k = c := e; rw [← e']; exact hv k hk))

set_option maxHeartbeats 800000 in
theorem wbytes_any {S T : Nat → Prop} {w : World} {c m : Nat} {xs bs : List Int} {u : Value} (hW : Wt S w c m xs) (hu : SlC T w u bs) (hT : ¬ T c) :
    Calls Tryz.prog 46 #[.pointer (some ⟨c, 0, none⟩), u] w fun e w' => e = .returned (.tuple #[]) ∧ Only (OS c S) w w' ∧ Wt S w' c m (xs ++ bs) := by
  obtain ⟨gd, v, l, ys, hc, hw, hv, hB, hl, hm, h1, h2⟩ := hW
  have hs := hu.sl
  obtain ⟨c0, c1, f0, f1⟩ := two_cells hc
  have hlen := hu.len
  have HV : Hid (Owns 0 w v ys) := hw
  have HU : Hid (Sl w.heap.size w u bs) := hs
  obtain ⟨va, vc, hve⟩ : ∃ va vc, v = .slice va ys.length vc := by
    rcases hw.2 with ⟨rfl, e⟩ | ⟨g, cap, cur, rfl, _⟩
    · exact ⟨none, 0, by rw [e]⟩
    · exact ⟨_, _, rfl⟩
  obtain ⟨ua, uc, rfl, -⟩ := id hs
  cases l with
  | true =>
    have HF : Hid _ := Wt.mark (xs := xs) (bs := bs) gd hc hw hv hB hl hm (by have := h2 rfl; rw [List.length_append]; omega)
    subst hve
    clear hw hs hu h1 h2 hc gd
    go_enter Tryz.func46, Tryz.ntmps46
    go_wp2
    first | go_end0 | refine bodyPost_ret (results_none rfl _ _ _) rfl ?_
    exact ⟨rfl, HF.out⟩
  | false =>
    have hx := h1 rfl
    by_cases hroom : ys.length + bs.length ≤ 8192
    · have hd : decide ((8192 : Int) - ys.length < bs.length) = false := by simp; omega
      have c1' := c1
      have HF : Hid (∀ w1 v1, Ext 0 (w.setCell ⟨c, 1, none⟩ (.bool false)) v w1 v1 (ys ++ bs) → Only (OS c S) w (w1.setCell ⟨c, 0, none⟩ v1) ∧ Wt S (w1.setCell ⟨c, 0, none⟩ v1) c m (xs ++ bs)) := by
        show ∀ _, _
        intro w1 v1 hE
        have ho2 : Only (OS c S) w (w.setCell ⟨c, 1, none⟩ (.bool false)) := (Only.refl _ _).setCell (p := ⟨c, 1, none⟩) (Or.inl rfl) _
        have := Wt.put (gd.on ho2) (two_set1 hc _) hv hE hB HU.out.isB (by rw [List.length_append]; exact hroom) hm hx
        exact ⟨ho2.trans this.1, this.2⟩
      have HO : Hid (Owns 0 (w.setCell ⟨c, 1, none⟩ (.bool false)) v ys) := owns_carry hw fun k hk => heap_setCell_other w ⟨c, 1, none⟩ k _ (fun e => gd.out (by have e' : k = c := e; rw [← e']; exact hv k hk))
      have HS : Hid (Sl (w.setCell ⟨c, 1, none⟩ (.bool false)).heap.size (w.setCell ⟨c, 1, none⟩ (.bool false)) (.slice ua bs.length uc) bs) := (hu.carry (T := T) fun k _ hk => ⟨hk, heap_setCell_other w ⟨c, 1, none⟩ k _ (fun e => hT (by have e' : k = c := e; rw [← e']; exact hk))⟩).sl
      have HL : Hid (ys.length + bs.length ≤ 140737488355328) := show _ ≤ _ by omega
      have HC1 : (w.setCell ⟨c, 1, none⟩ (.bool false)).heap[c]? = some (.cells #[v, .bool false] 50 (0, 0)) := two_set1 hc _
      obtain ⟨d0, d1, g0, g1⟩ := two_cells HC1
      have HG : Hid (∀ w1 v1, Ext 0 (w.setCell ⟨c, 1, none⟩ (.bool false)) v w1 v1 (ys ++ bs) → w1.frozen? ⟨c, 0, none⟩ = false ∧ w1.cell? ⟨c, 0, none⟩ = some v) := by
        show ∀ _, _
        intro w1 v1 hE
        have hc1 : w1.heap[c]? = some (.cells #[v, .bool false] 50 (0, 0)) := by
          rw [hE.grown.block c (Nat.lt_of_lt_of_le gd.lt ((Only.refl (OS c S) w).setCell (p := ⟨c, 1, none⟩) (Or.inl rfl) _).size) (fun e => gd.out (hv c e.symm))]; exact HC1
        obtain ⟨e0, -, e1, -⟩ := two_cells hc1
        exact ⟨e1, e0⟩
      subst hve
      clear hw hs hu h1 h2 hc gd HC1 hx c1'
      go_enter Tryz.func46, Tryz.ntmps46
      go_wp2_with (at_builtin; refine app22 (.tmp 31) (.tmp 32) rfl rfl rfl rfl HO.out HS.out (Nat.zero_le _) HL.out ?_
                   intro v1 w1 X1
                   have HX : Hid _ := HF.out w1 v1 X1
                   obtain ⟨g2, g3⟩ := HG.out w1 v1 X1
                   have hone : v1.oneCell' = true := (Sl.own X1.own (by rw [List.length_append]; exact HL.out) (hB.app HU.out.isB)).one
                   obtain ⟨a1, k1, hv1⟩ : ∃ a1 k1, v1 = .slice a1 (ys ++ bs).length k1 := by
                     rcases X1.own.2 with ⟨rfl, e⟩ | ⟨g, cap, cur, rfl, _⟩
                     · exact ⟨none, 0, by rw [e]⟩
                     · exact ⟨_, _, rfl⟩
                   subst hv1
                   clear X1)
      first | go_end0 | refine bodyPost_ret (results_none rfl _ _ _) rfl ?_
      have hfin := HX.out
      rw [List.length_append] at hfin
      exact ⟨rfl, hfin⟩
    · have hd : decide ((8192 : Int) - ys.length < bs.length) = true := by simp; omega
      have HF : Hid _ := Wt.mark (xs := xs) (bs := bs) gd hc hw hv hB hl hm (by rw [← hx, List.length_append]; omega)
      subst hve
      clear hw hs hu h1 h2 hc gd hx
      go_enter Tryz.func46, Tryz.ntmps46
      go_wp2
      first | go_end0 | refine bodyPost_ret (results_none rfl _ _ _) rfl ?_
      exact ⟨rfl, HF.out⟩

/-- S without the blocks from a to b. -/
abbrev Sx (S : Nat → Prop) (a b : Nat) : Nat → Prop := fun k => S k ∧ (k < a ∨ b ≤ k)
theorem Gd.hide {S : Nat → Prop} {w w1 : World} {c : Nat} (h : Gd S c w) (hb : Below w.heap.size w w1) : Gd (Sx S w.heap.size w1.heap.size) c w1 :=
  ⟨h.tab.on hb, fun k hk => ⟨h.fresh k (Nat.le_trans hb.size hk), Or.inr hk⟩, fun k hk => h.two k hk.1, h.cur, fun hk => h.out hk.1, Nat.lt_of_lt_of_le h.lt hb.size⟩
theorem Wt.hide {S : Nat → Prop} {w w1 : World} {c m : Nat} {xs : List Int} (h : Wt S w c m xs) (hb : Below w.heap.size w w1) : Wt (Sx S w.heap.size w1.heap.size) w1 c m xs := by
  obtain ⟨gd, v, l, ys, hc, hw, hv, h4⟩ := h
  have hlt : ∀ k, v.ownBlock = some k → k < w.heap.size := fun k hk => (hw.lt k hk).2
  exact ⟨gd.hide hb, v, l, ys, by rw [hb.block c gd.lt]; exact hc, owns_carry hw fun k hk => hb.block k (hlt k hk), fun k hk => ⟨hv k hk, Or.inl (hlt k hk)⟩, h4⟩
theorem Wt.back {S : Nat → Prop} {w w' : World} {c m a b : Nat} {xs : List Int} (gd : Gd S c w) (hs : w.heap.size ≤ w'.heap.size) (h : Wt (Sx S a b) w' c m xs) : Wt S w' c m xs := by
  obtain ⟨gd', v, l, ys, hc, hw, hv, h4⟩ := h
  exact ⟨⟨gd'.tab, gd.fresh.on hs, gd.two, gd.cur, gd.out, gd'.lt⟩, v, l, ys, hc, hw, fun k hk => (hv k hk).1, h4⟩
theorem only_back {S : Nat → Prop} {w w1 w2 : World} {c : Nat} (gd : Gd S c w) (hb : Below w.heap.size w w1) (ho : Only (OS c (Sx S w.heap.size w1.heap.size)) w1 w2) : Only (OS c S) w w2 :=
  (Only.of hb (fun k hk => Or.inr (gd.fresh k hk))).trans (ho.mono fun k hk => by rcases hk with h | h; exact Or.inl h; exact Or.inr h.1)
theorem only_mid {S : Nat → Prop} {w w1 w2 : World} {c : Nat} (gd : Gd S c w) (ho : Only (OS c (Sx S w.heap.size w1.heap.size)) w1 w2) (k : Nat) (h1 : w.heap.size ≤ k) (h2 : k < w1.heap.size) : w2.heap[k]? = w1.heap[k]? :=
  ho.block k (by rintro (h | h); have := gd.lt; omega; have := h.2; omega)

theorem dg_at (n : Int) : ∀ (k j : Nat), j < k → (dg n k).getD j 0 = n / 2 ^ (8 * (k - 1 - j)) % 256
  | 0, _, h => by omega
  | k + 1, 0, _ => by simp [dg]
  | k + 1, j + 1, h => by
    have := dg_at n k j (by omega)
    simp only [dg, List.getD_cons_succ]
    rw [this, show k + 1 - 1 - (j + 1) = k - 1 - j by omega]
/-- Eight bytes of a number, j of them there. -/
def by8 (n : Int) (j : Nat) : Array Value := Array.ofFn (n := 8) fun i => Value.int .u8 (if i.val < j then n / 2 ^ (56 - 8 * i.val) % 256 else 0)
theorem by8_size (n : Int) (j : Nat) : (by8 n j).size = 8 := by simp [by8]
theorem by8_at (n : Int) (j i : Nat) (h : i < 8) : (by8 n j)[i]? = some (.int .u8 (if i < j then n / 2 ^ (56 - 8 * i) % 256 else 0)) := by simp [by8, h]
theorem by8_set (n : Int) (j : Nat) (h : j < 8) : (by8 n j).setIfInBounds j (.int .u8 (n / 2 ^ (56 - 8 * j) % 256)) = by8 n (j + 1) := by
  apply Array.ext_getElem?
  intro i
  rw [Array.getElem?_setIfInBounds]
  by_cases hi : i < 8
  · rw [by8_at n j i hi, by8_at n (j + 1) i hi]
    by_cases e : j = i
    · subst e
      rw [if_pos rfl, if_pos (by rw [by8_size]; exact hi), if_pos (by omega)]
    · rw [if_neg e]
      by_cases h2 : i < j
      · rw [if_pos h2, if_pos (by omega)]
      · rw [if_neg h2, if_neg (by omega)]
  · rw [if_neg (by omega), Array.getElem?_eq_none (by rw [by8_size]; omega), Array.getElem?_eq_none (by rw [by8_size]; omega)]
theorem by8_zero (n : Int) : by8 n 0 = #[.int .u8 0, .int .u8 0, .int .u8 0, .int .u8 0, .int .u8 0, .int .u8 0, .int .u8 0, .int .u8 0] := by
  apply Array.ext_getElem?
  intro i
  by_cases hi : i < 8
  · rw [by8_at n 0 i hi, if_neg (by omega)]
    have : i = 0 ∨ i = 1 ∨ i = 2 ∨ i = 3 ∨ i = 4 ∨ i = 5 ∨ i = 6 ∨ i = 7 := by omega
    rcases this with rfl | rfl | rfl | rfl | rfl | rfl | rfl | rfl <;> rfl
  · rw [Array.getElem?_eq_none (by rw [by8_size]; omega), Array.getElem?_eq_none (by simp; omega)]
theorem by8_sl {w : World} {g : Nat} {n : Int} {k : Nat} {t : TypeId} (h : w.heap[g]? = some (.cells (by8 n 8) t (0, 0))) (hk : k ≤ 8) : SlC (fun x => x = g) w (.slice (some ⟨g, 8 - k, none⟩) k k) (dg n k) := by
  refine ⟨_, k, by rw [dg_len], by rw [dg_len]; exact Nat.le_refl _, by rw [dg_len]; omega, dg_isB _ _, (fun h => by cases h), fun _ => ⟨g, 8 - k, rfl, rfl, fun j hj => ?_⟩⟩
  rw [dg_len] at hj
  rw [cell_of_row w g _ _ _ _ h, by8_at n 8 _ (by omega), if_pos (by omega), dg_at n k j hj, show 56 - 8 * (8 - k + j) = 8 * (k - 1 - j) by omega]
end Go.Proofs.YtllbbbfkdgjffaaGreatDoor
namespace Go.Proofs.YtllbbbfkdgjffaaGreatDoor
open Go.ChangeShapes Go.WideShapes Go.ChangeAt Go.RowKit Go.Deep

theorem own : ownKnob Tryz.prog.godebug = none := by kernel_rfl
theorem gWid : Tryz.prog.globalNamed "tollbridge/header.widths" = some 1 := by kernel_rfl
theorem gFsz : Tryz.prog.globalNamed "tollbridge/message.fieldSizes" = some 0 := by kernel_rfl
theorem tWid : (Tryz.prog.globals[1]?).map (·.type) = some 166 := by kernel_rfl
theorem tFsz : (Tryz.prog.globals[0]?).map (·.type) = some 166 := by kernel_rfl
theorem cells3 : Tryz.prog.cellsOf 3 = 1 := by kernel_rfl
theorem cells5 : Tryz.prog.cellsOf 5 = 1 := by kernel_rfl
theorem cellsI8 : Tryz.prog.cellsOf 22 = 1 := by kernel_rfl
theorem cellsU16 : Tryz.prog.cellsOf 32 = 1 := by kernel_rfl
theorem cellsU32 : Tryz.prog.cellsOf 23 = 1 := by kernel_rfl
theorem cellsU64 : Tryz.prog.cellsOf 24 = 1 := by kernel_rfl
theorem cellsBool : Tryz.prog.cellsOf 4 = 1 := by kernel_rfl
theorem cellsBY : Tryz.prog.cellsOf 34 = 1 := by kernel_rfl
theorem cellsUS : Tryz.prog.cellsOf 33 = 1 := by kernel_rfl
theorem cellsHDS : Tryz.prog.cellsOf 35 = 1 := by kernel_rfl
theorem cellsACT : Tryz.prog.cellsOf 93 = 3 := by kernel_rfl
theorem cellsACTS : Tryz.prog.cellsOf 87 = 1 := by kernel_rfl
theorem cellsCPS : Tryz.prog.cellsOf 29 = 1 := by kernel_rfl
theorem cellsHELD : Tryz.prog.cellsOf 57 = 27 := by kernel_rfl
theorem cellsCNT : Tryz.prog.cellsOf 55 = 2 := by kernel_rfl
theorem cellsRULE : Tryz.prog.cellsOf 31 = 25 := by kernel_rfl
theorem cellsMAT : Tryz.prog.cellsOf 28 = 22 := by kernel_rfl
theorem cellsHDR : Tryz.prog.cellsOf 26 = 11 := by kernel_rfl
theorem cellsMSG : Tryz.prog.cellsOf 37 = 36 := by kernel_rfl
theorem cellsA11 : Tryz.prog.cellsOf 166 = 11 := by kernel_rfl
theorem laidOut : laidOutB Tryz.prog = true := by kernel_rfl
def widL : List Int := [48, 48, 16, 12, 32, 32, 8, 16, 16, 16, 16]
def fszL : List Int := [6, 6, 2, 2, 4, 4, 1, 2, 2, 2, 2]
theorem widData : (Rows.laid_tollbridge_header_widths : DataW Unit) = Lib.tabData .i64 widL := by kernel_rfl
theorem fszData : (Rows.laid_tollbridge_message_fieldSizes : DataW Unit) = Lib.tabData .i64 fszL := by kernel_rfl
abbrev laidL : List (String × DataW Unit) := [("tollbridge/header.widths", Rows.laid_tollbridge_header_widths), ("tollbridge/message.fieldSizes", Rows.laid_tollbridge_message_fieldSizes)]

/-- WHAT THE ROWS' LIST GIVES: the two tables. -/
theorem tab_of_laid {W : World} (h : laidMet Tryz.prog laidL W) : Tab W := by
  have hf : laidMet Tryz.prog (("tollbridge/message.fieldSizes", Lib.tabData .i64 fszL) :: []) W := by rw [← fszData]; exact h.tail
  have hw : laidMet Tryz.prog (("tollbridge/header.widths", Lib.tabData .i64 widL) :: [("tollbridge/message.fieldSizes", Rows.laid_tollbridge_message_fieldSizes)]) W := by rw [← widData]; exact h
  refine ⟨fun k hk => ?_, fun k hk => ?_⟩
  · rw [(Lib.tabIs_of_head gFsz tFsz Tryz.underlying166 Tryz.underlying3 cells3 cellsA11 hf).cell gFsz k hk]
    have hk' : k = 0 ∨ k = 1 ∨ k = 2 ∨ k = 3 ∨ k = 4 ∨ k = 5 ∨ k = 6 ∨ k = 7 ∨ k = 8 ∨ k = 9 ∨ k = 10 := by omega
    rcases hk' with rfl | rfl | rfl | rfl | rfl | rfl | rfl | rfl | rfl | rfl | rfl <;> rfl
  · rw [(Lib.tabIs_of_head gWid tWid Tryz.underlying166 Tryz.underlying3 cells3 cellsA11 hw).cell gWid k hk]
    have hk' : k = 0 ∨ k = 1 ∨ k = 2 ∨ k = 3 ∨ k = 4 ∨ k = 5 ∨ k = 6 ∨ k = 7 ∨ k = 8 ∨ k = 9 ∨ k = 10 := by omega
    rcases hk' with rfl | rfl | rfl | rfl | rfl | rfl | rfl | rfl | rfl | rfl | rfl <;> rfl
/-- The heap that the program's own initialisers leave meets the rows' list. -/
theorem door_met (os : Os) (args : Array Value) : laidMet Tryz.prog laidL ((World.doorLaid Tryz.prog 26 os).forCall (fun _ _ => 0) ⟨#[], args, []⟩).memory :=
  laidMet_of_run' 8 (by kernel_rfl) (by kernel_rfl)

section
variable {H : Type} {enc : TypeId × Value → H} {W : World}
theorem weights_all_mem {P : Program} {e : TypeId} : ∀ {l : List (DataW H)} {d : DataW H}, d ∈ l → ∀ n ∈ d.weights P e, n ∈ DataW.weightsAll P e l
  | x :: r, d, hd, n, hn => by
    simp only [DataW.weightsAll, List.mem_append]
    rcases List.mem_cons.1 hd with rfl | hd
    · exact Or.inl hn
    · exact Or.inr (weights_all_mem hd n hn)
theorem weights_slice {P : Program} {t e : TypeId} {elems spare : List (DataW H)} (hu : P.underlying t = some (.slice e)) : (DataW.slice elems spare).weights P t = (elems.length + spare.length) * P.bytesOf e :: (DataW.weightsAll P e elems ++ DataW.weightsAll P e spare) := by
  simp [DataW.weights, hu]
theorem pickA {α : Type} {n : Nat} {p : Nat → α → Prop} (h : ∀ i, i < n → ∃ x, p i x) : ∃ l : List α, l.length = n ∧ ∀ i (hi : i < l.length), p i l[i] := by
  induction n with
  | zero => exact ⟨[], rfl, fun i hi => by simp at hi⟩
  | succ n ih =>
    obtain ⟨l, h1, h2⟩ := ih fun i hi => h i (by omega)
    obtain ⟨x, hx⟩ := h n (by omega)
    refine ⟨l ++ [x], by simp [h1], fun i hi => ?_⟩
    by_cases hlt : i < l.length
    · rw [List.getElem_append_left hlt]; exact h2 i hlt
    · have : i = l.length := by simp at hi; omega
      subst this
      rw [List.getElem_append_right (Nat.le_refl _)]
      simpa [h1] using hx
/-- What one thing of type e, that came in, holds. -/
def Opens (enc : TypeId × Value → H) (W : World) (e k : Nat) {α : Type} (R : World → (Nat → Option Value) → α → Prop) : Prop :=
  ∀ fuel cs D Pl, DataW.trod enc Tryz.prog W 0 (fun _ => true) true fuel e cs = some (D, Pl) → (∀ y ∈ Pl, y.block < W.heap.size) → (∀ n ∈ D.weights Tryz.prog e, n ≤ reachBytes) → ∃ x, ∀ f : Nat → Option Value, (∀ i, i < k → f i = cs[i]?) → R W f x
/-- A SLICE THAT CAME IN. -/
theorem open_lst {α : Type} {t e k : Nat} {R : World → (Nat → Option Value) → α → Prop} (hu : Tryz.prog.underlying t = some (.slice e)) (hk : Tryz.prog.cellsOf e = k) (hk0 : 0 < k) (hb : 1 ≤ Tryz.prog.bytesOf e) (hel : Opens enc W e k R)
    {fuel : Nat} {cs : List Value} {d : DataW H} {p : List MemPlace} (hf : DataW.trod enc Tryz.prog W 0 (fun _ => true) true fuel t cs = some (d, p)) (hlt : ∀ y ∈ p, y.block < W.heap.size) (hw : ∀ n ∈ d.weights Tryz.prog t, n ≤ reachBytes) :
    ∃ v l, cs = [v] ∧ Lst (fun b => b < W.heap.size) k R W v l := by
  rcases open_slice hu hf with ⟨hcs, _⟩ | ⟨a, len, cap, m, fu, D, Pl, hcs, _, hl, hm, hmm, hx, hc⟩
  · exact ⟨_, [], hcs, Lst.nil _ _ _ _⟩
  · simp only [if_true] at hmm
    subst hmm
    rw [hk] at hx hc
    have hd : d = .slice ((List.range len).map D) ((List.range (m - len)).map fun j => D (len + j)) := congrArg Prod.fst hx
    have hp : p = MemPlace.row a (m * k) ++ (List.range m).flatMap Pl := congrArg Prod.snd hx
    rw [hd, weights_slice hu] at hw
    have hlen : len ≤ 140737488355328 := by
      have h1 := hw _ List.mem_cons_self
      simp only [reachBytes, List.length_map, List.length_range] at h1
      have h3 : len + (m - len) ≤ (len + (m - len)) * Tryz.prog.bytesOf e := Nat.le_mul_of_pos_right _ hb
      omega
    obtain ⟨l, h1, h2⟩ := pickA (n := len) (p := fun i x => ∃ cs', W.cells? 0 (a.add (i * k)) k = some cs' ∧ ∀ f : Nat → Option Value, (∀ i, i < k → f i = cs'[i]?) → R W f x) (fun i hi => by
      obtain ⟨cs', hcl, htr⟩ := hc i (by omega)
      obtain ⟨x, hx⟩ := hel _ _ _ _ htr (fun y hy => hlt y (by rw [hp]; exact List.mem_append_right _ (List.mem_flatMap.2 ⟨i, List.mem_range.2 (by omega), hy⟩))) (fun n hn => hw n (List.mem_cons_of_mem _ (List.mem_append_left _ (weights_all_mem (d := D i) (List.mem_map.2 ⟨i, List.mem_range.2 hi, rfl⟩) n hn))))
      exact ⟨x, cs', hcl, hx⟩)
    obtain ⟨b, off, spot⟩ := a
    refine ⟨_, l, hcs, some ⟨b, off, spot⟩, m, by rw [h1], by omega, by omega, (fun h => by cases h), fun hne => ?_⟩
    have hpos : 0 < l.length := List.length_pos_iff.2 hne
    have hspot : spot = none := by
      obtain ⟨cs', hcl, _⟩ := h2 0 hpos
      have h0 := (World.cells?_some hcl).2.2 0 (by omega)
      have hl0 := (World.cells?_some hcl).2.1
      have : 0 < cs'.length := by omega
      rw [List.getElem?_eq_getElem this] at h0
      simpa [Addr.add] using World.cell?_spot h0
    subst hspot
    refine ⟨b, off, ?_, rfl, fun j hj => ?_⟩
    · refine hlt (.cell b off) ?_
      rw [hp]
      exact List.mem_append_left _ (MemPlace.mem_row.2 ⟨0, Nat.mul_pos (by omega) hk0, by simp⟩)
    · obtain ⟨cs', hcl, hR⟩ := h2 j hj
      refine hR _ fun i hi => ?_
      have := (World.cells?_some hcl).2.2 i hi
      rw [Addr.add_mid, Addr.add_mid] at this
      exact this
theorem opens_lst {α : Type} {t e k : Nat} {R : World → (Nat → Option Value) → α → Prop} (hu : Tryz.prog.underlying t = some (.slice e)) (hk : Tryz.prog.cellsOf e = k) (hk0 : 0 < k) (hb : 1 ≤ Tryz.prog.bytesOf e) (hel : Opens enc W e k R) :
    Opens enc W t 1 (fun w f l => ∃ u, f 0 = some u ∧ Lst (fun b => b < W.heap.size) k R w u l) := fun fuel cs D Pl hf hlt hw => by
  obtain ⟨v, l, rfl, hl⟩ := open_lst hu hk hk0 hb hel hf hlt hw
  exact ⟨l, fun f hf => ⟨v, by rw [hf 0 (by omega)]; rfl, hl⟩⟩
end
end Go.Proofs.YtllbbbfkdgjffaaGreatDoor
