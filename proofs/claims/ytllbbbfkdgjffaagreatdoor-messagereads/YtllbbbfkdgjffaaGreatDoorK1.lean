/-
  Plain facts: a number's lowest bytes (dg), the number of bytes (num), taking bytes off the front (tk). No program is spoken of.
-/
/-
  Proved here: what it is that a slice holds bytes, or is the call's own; bytes are appended; bytes as a string. No condition.
-/
import Derived.WalkKit
import Derived.Test.YtllbbbfkdgjffaaGreatDoorProg
import Derived.WalkSpells
import Derived.WalkLawsBesides
import Derived.ChangeKeysEq
import Derived.Laws.CopyOwn
import Derived.Laws.AppendOwnNone
import Derived.ArgAppend
import Derived.Deep.MidRow
import Derived.Laws.IdiomStrings
import Derived.Laws.BytesString
import Derived.Laws.Strings
namespace Go.Proofs.YtllbbbfkdgjffaaGreatDoor

/-- The lowest k bytes of n, the greatest first. -/
def dg (n : Int) : Nat → List Int
  | 0 => []
  | k + 1 => n / 2 ^ (8 * k) % 256 :: dg n k
/-- The number of bytes, the greatest first. -/
def num (l : List Int) : Int := l.foldl (fun n d => n * 256 + d) 0
def IsB (l : List Int) : Prop := ∀ x ∈ l, 0 ≤ x ∧ x < 256
theorem IsB.nil : IsB [] := fun _ h => by cases h
theorem IsB.cons {x : Int} {l : List Int} (h0 : 0 ≤ x) (h1 : x < 256) (h : IsB l) : IsB (x :: l) := fun y hy => by
  rcases List.mem_cons.1 hy with rfl | hy
  · exact ⟨h0, h1⟩
  · exact h y hy
theorem IsB.app {a b : List Int} (ha : IsB a) (hb : IsB b) : IsB (a ++ b) := fun y hy => by
  rcases List.mem_append.1 hy with hy | hy
  · exact ha y hy
  · exact hb y hy
theorem IsB.take {l : List Int} (h : IsB l) (k : Nat) : IsB (l.take k) := fun y hy => h y (List.mem_of_mem_take hy)
theorem IsB.drop {l : List Int} (h : IsB l) (k : Nat) : IsB (l.drop k) := fun y hy => h y (List.mem_of_mem_drop hy)
theorem IsB.tail {x : Int} {l : List Int} (h : IsB (x :: l)) : IsB l := fun y hy => h y (List.mem_cons_of_mem _ hy)
theorem IsB.head {x : Int} {l : List Int} (h : IsB (x :: l)) : 0 ≤ x ∧ x < 256 := h x List.mem_cons_self
theorem IsB.left {a b : List Int} (h : IsB (a ++ b)) : IsB a := fun y hy => h y (List.mem_append_left _ hy)
theorem IsB.right {a b : List Int} (h : IsB (a ++ b)) : IsB b := fun y hy => h y (List.mem_append_right _ hy)
theorem IsB.at {l : List Int} (h : IsB l) (k : Nat) : 0 ≤ l.getD k 0 ∧ l.getD k 0 < 256 := by
  rw [List.getD_eq_getElem?_getD]
  cases e : l[k]? with
  | none => simp
  | some x => exact h x (List.mem_of_getElem? e)
theorem dg_len (n : Int) : ∀ k, (dg n k).length = k
  | 0 => rfl
  | k + 1 => by simp [dg, dg_len n k]
theorem dg_isB (n : Int) : ∀ k, IsB (dg n k)
  | 0 => IsB.nil
  | k + 1 => IsB.cons (Int.emod_nonneg _ (by omega)) (Int.emod_lt_of_pos _ (by omega)) (dg_isB n k)
theorem num_snoc (l : List Int) (d : Int) : num (l ++ [d]) = num l * 256 + d := by simp [num]
theorem fold_from (l : List Int) : ∀ a : Int, l.foldl (fun n d => n * 256 + d) a = a * 2 ^ (8 * l.length) + num l := by
  induction l with
  | nil => intro a; simp [num]
  | cons d l ih =>
    intro a
    have h1 : num (d :: l) = d * 2 ^ (8 * l.length) + num l := by
      show l.foldl _ (0 * 256 + d) = _
      rw [ih]; simp
    rw [h1]
    show l.foldl _ (a * 256 + d) = _
    rw [ih, List.length_cons, Nat.mul_add, Int.pow_add, Int.add_mul, Int.mul_assoc a 256, Int.add_assoc]
    have e : (2 : Int) ^ (8 * 1) = 256 := by decide
    rw [e, Int.mul_comm 256]
theorem num_cons (d : Int) (l : List Int) : num (d :: l) = d * 2 ^ (8 * l.length) + num l := by
  show l.foldl _ (0 * 256 + d) = _
  rw [fold_from]; simp
theorem pw_pos (k : Nat) : (0 : Int) < 2 ^ k := Int.pow_pos (by omega)
theorem num_bd : ∀ {l : List Int}, IsB l → 0 ≤ num l ∧ num l < 2 ^ (8 * l.length)
  | [], _ => by simp [num]
  | d :: l, h => by
    have ih := num_bd h.tail
    have hd := h.head
    have hp := pw_pos (8 * l.length)
    rw [num_cons, List.length_cons, Nat.mul_add, Int.pow_add]
    have e : (2 : Int) ^ (8 * 1) = 256 := by decide
    rw [e]
    generalize (2 : Int) ^ (8 * l.length) = p at *
    have h1 : 0 ≤ d * p := Int.mul_nonneg hd.1 (by omega)
    have h2 : d * p ≤ 255 * p := Int.mul_le_mul_of_nonneg_right (by omega) (by omega)
    omega
theorem num_dg_any (n : Int) : ∀ k : Nat, n / 2 ^ (8 * k) * 2 ^ (8 * k) + num (dg n k) = n
  | 0 => by simp [dg, num]
  | k + 1 => by
    have ih := num_dg_any n k
    have hp := pw_pos (8 * k)
    simp only [dg]
    rw [num_cons, dg_len, Nat.mul_add, Int.pow_add]
    have e : (2 : Int) ^ (8 * 1) = 256 := by decide
    rw [e, ← Int.ediv_ediv_of_nonneg (by omega)]
    generalize hq : n / 2 ^ (8 * k) = q at *
    generalize (2 : Int) ^ (8 * k) = p at *
    have h1 : q / 256 * (p * 256) + (q % 256 * p + num (dg n k)) = (q / 256 * 256 + q % 256) * p + num (dg n k) := by
      rw [Int.add_mul, Int.mul_comm p 256, ← Int.mul_assoc]; omega
    rw [h1, show q / 256 * 256 + q % 256 = q by omega]
    exact ih
theorem num_dg {n : Int} {k : Nat} (h0 : 0 ≤ n) (h1 : n < 2 ^ (8 * k)) : num (dg n k) = n := by
  have h := num_dg_any n k
  rw [Int.ediv_eq_zero_of_lt h0 h1] at h
  omega
theorem num_inj : ∀ {a b : List Int}, IsB a → IsB b → a.length = b.length → num a = num b → a = b
  | [], [], _, _, _, _ => rfl
  | [], _ :: _, _, _, h, _ => by simp at h
  | _ :: _, [], _, _, h, _ => by simp at h
  | x :: a, y :: b, ha, hb, hl, hn => by
    have hl' : a.length = b.length := by simpa using hl
    rw [num_cons, num_cons, hl'] at hn
    have ba := num_bd ha.tail
    have bb := num_bd hb.tail
    rw [hl'] at ba
    have hp := pw_pos (8 * b.length)
    generalize (2 : Int) ^ (8 * b.length) = p at *
    have e1 : (x * p + num a) / p = x := by
      rw [Int.add_comm, Int.add_mul_ediv_right _ _ (by omega), Int.ediv_eq_zero_of_lt ba.1 ba.2]; omega
    have e2 : (y * p + num b) / p = y := by
      rw [Int.add_comm, Int.add_mul_ediv_right _ _ (by omega), Int.ediv_eq_zero_of_lt bb.1 bb.2]; omega
    have hxy : x = y := by rw [← e1, ← e2, hn]
    subst hxy
    have hab : num a = num b := by omega
    rw [num_inj ha.tail hb.tail hl' hab]
theorem dg_num {l : List Int} (h : IsB l) : dg (num l) l.length = l := by
  have hb := num_bd h
  exact num_inj (dg_isB _ _) h (dg_len _ _) (num_dg hb.1 hb.2)

/-- k bytes off the front, as a number. -/
def tk (k : Nat) (l : List Int) : Option (Int × List Int) := if k ≤ l.length then some (num (l.take k), l.drop k) else none
theorem tk_short {k : Nat} {l : List Int} (h : l.length < k) : tk k l = none := by simp [tk]; omega
theorem tk_some {k : Nat} {l : List Int} (h : k ≤ l.length) : tk k l = some (num (l.take k), l.drop k) := by simp [tk, h]
theorem tk_dg {n : Int} {k : Nat} (h0 : 0 ≤ n) (h1 : n < 2 ^ (8 * k)) (r : List Int) : tk k (dg n k ++ r) = some (n, r) := by
  rw [tk_some (by simp [dg_len])]
  rw [List.take_append_of_le_length (by simp [dg_len]), List.take_of_length_le (by simp [dg_len]), List.drop_append_of_le_length (by simp [dg_len]), List.drop_of_length_le (by simp [dg_len]), num_dg h0 h1]
  simp
theorem tk_inv {k : Nat} {l r : List Int} {n : Int} (hl : IsB l) (h : tk k l = some (n, r)) : l = dg n k ++ r ∧ 0 ≤ n ∧ n < 2 ^ (8 * k) ∧ IsB r := by
  unfold tk at h
  split at h
  · rename_i hk
    simp only [Option.some.injEq, Prod.mk.injEq] at h
    obtain ⟨rfl, rfl⟩ := h
    have h1 : (l.take k).length = k := by simp; omega
    have h2 := dg_num (hl.take k)
    have h3 := num_bd (hl.take k)
    rw [h1] at h2 h3
    exact ⟨by rw [h2, List.take_append_drop], h3.1, h3.2, hl.drop k⟩
  · cases h
theorem tk_len {k : Nat} {l r : List Int} {n : Int} (h : tk k l = some (n, r)) : l.length = k + r.length := by
  unfold tk at h
  split at h
  · rename_i hk
    simp only [Option.some.injEq, Prod.mk.injEq] at h
    obtain ⟨rfl, rfl⟩ := h
    simp; omega
  · cases h
end Go.Proofs.YtllbbbfkdgjffaaGreatDoor
namespace Go.Proofs.YtllbbbfkdgjffaaGreatDoor
open Go.RowKit

abbrev nilS : Value := .slice none 0 0
/-- A slice value that holds the bytes bs, in a block below B. -/
def Sl (B : Nat) (w : World) (v : Value) (bs : List Int) : Prop :=
  ∃ ao cap, v = .slice ao bs.length cap ∧ bs.length ≤ cap ∧ bs.length ≤ 140737488355328 ∧ IsB bs ∧ (ao = none → cap = 0) ∧
    (bs ≠ [] → ∃ b o, b < B ∧ ao = some ⟨b, o, none⟩ ∧ ∀ j, j < bs.length → w.cell? ⟨b, o + j, none⟩ = some (.int .u8 (bs.getD j 0)))
theorem Sl.one {B : Nat} {w : World} {v : Value} {bs : List Int} (h : Sl B w v bs) : v.oneCell' = true := by
  obtain ⟨ao, cap, rfl, _⟩ := h
  rfl
theorem Sl.isB {B : Nat} {w : World} {v : Value} {bs : List Int} (h : Sl B w v bs) : IsB bs := by
  obtain ⟨ao, cap, _, _, _, h, _⟩ := h
  exact h
theorem Sl.len {B : Nat} {w : World} {v : Value} {bs : List Int} (h : Sl B w v bs) : bs.length ≤ 140737488355328 := by
  obtain ⟨ao, cap, _, _, h2, _⟩ := h
  exact h2
theorem Sl.nil (B : Nat) (w : World) : Sl B w nilS [] := ⟨none, 0, rfl, by simp, by simp, IsB.nil, fun _ => rfl, fun h => absurd rfl h⟩
theorem Sl.on {B : Nat} {w w' : World} {v : Value} {bs : List Int} (h : Sl B w v bs) (hb : Below B w w') : Sl B w' v bs := by
  obtain ⟨ao, cap, h1, h2, h3, h4, h6, h5⟩ := h
  refine ⟨ao, cap, h1, h2, h3, h4, h6, fun hne => ?_⟩
  obtain ⟨b, o, hlt, rfl, hc⟩ := h5 hne
  refine ⟨b, o, hlt, rfl, fun j hj => ?_⟩
  rw [hb.cell (p := ⟨b, o + j, none⟩) hlt]
  exact hc j hj
theorem Sl.mono {B B' : Nat} {w : World} {v : Value} {bs : List Int} (h : Sl B w v bs) (hB : B ≤ B') : Sl B' w v bs := by
  obtain ⟨ao, cap, h1, h2, h3, h4, h6, h5⟩ := h
  refine ⟨ao, cap, h1, h2, h3, h4, h6, fun hne => ?_⟩
  obtain ⟨b, o, hlt, rfl, hc⟩ := h5 hne
  exact ⟨b, o, by omega, rfl, hc⟩
/-- What the call owns is a slice of bytes. -/
theorem Sl.own {w : World} {base : Nat} {v : Value} {bs : List Int} (h : w.ownsRow base 5 1 v bs.length (bs.map (Value.int .u8))) (hl : bs.length ≤ 140737488355328) (hb : IsB bs) : Sl w.heap.size w v bs := by
  rcases h.2 with ⟨rfl, h0⟩ | ⟨g, cap, cur, rfl, _, hg, hcap, _, _, htake⟩
  · refine ⟨none, 0, by rw [h0], by omega, by omega, hb, fun _ => rfl, fun hne => ?_⟩
    exact absurd (List.length_eq_zero_iff.1 h0) hne
  · refine ⟨_, cap, rfl, hcap, hl, hb, (fun h => by cases h), fun _ => ⟨g, 0, (Array.getElem?_eq_some_iff.1 hg).1, rfl, fun j hj => ?_⟩⟩
    rw [Nat.zero_add, cell_of_row w g j cur 5 (0, 0) hg]
    have h2 : (cur.toList.take (bs.length * 1))[j]? = (bs.map (Value.int .u8))[j]? := by rw [htake]
    rw [List.getElem?_take, if_pos (by omega)] at h2
    simp only [Array.getElem?_toList, List.getElem?_map] at h2
    rw [h2, List.getD_eq_getElem?_getD, List.getElem?_eq_getElem hj]; rfl

/-- The call owns the bytes ys in the slice v. -/
abbrev Owns (base : Nat) (w : World) (v : Value) (ys : List Int) : Prop := w.ownsRow base 5 1 v ys.length (ys.map (Value.int .u8))
theorem Owns.isNil {base : Nat} {w : World} : Owns base w nilS [] := World.ownsRow_nil _ _ _ _
/-- From the slice v in w to the slice v' in w', which holds ys: no old block but v's own has turned. -/
structure Ext (base : Nat) (w : World) (v : Value) (w' : World) (v' : Value) (ys : List Int) : Prop where
  own : Owns base w' v' ys
  grown : w.grownBy w' v.ownBlock
  same : ∀ k, v'.ownBlock = some k → k < w.heap.size → v.ownBlock = some k
theorem Ext.refl {base : Nat} {w : World} {v : Value} {ys : List Int} (h : Owns base w v ys) : Ext base w v w v ys := ⟨h, World.grownBy.refl _ _, fun _ hk _ => hk⟩
theorem Ext.trans {base : Nat} {w w1 w2 : World} {v v1 v2 : Value} {xs ys : List Int} (a : Ext base w v w1 v1 xs) (b : Ext base w1 v1 w2 v2 ys) : Ext base w v w2 v2 ys := by
  refine ⟨b.own, ⟨b.grown.os.trans a.grown.os, b.grown.tape.trans a.grown.tape, b.grown.output.trans a.grown.output, Nat.le_trans a.grown.size b.grown.size, fun k hk hne => ?_⟩, fun k hk hlt => ?_⟩
  · rw [b.grown.block k (Nat.lt_of_lt_of_le hk a.grown.size) (fun e => hne (a.same k e.symm hk).symm), a.grown.block k hk hne]
  · exact a.same k (b.same k hk (Nat.lt_of_lt_of_le hlt a.grown.size)) hlt
theorem Ext.below {base : Nat} {w w' : World} {v v' : Value} {xs ys : List Int} (h : Owns base w v xs) (a : Ext base w v w' v' ys) (hb : base ≤ w.heap.size) : Below base w w' :=
  (Below.refl base w).grown a.grown hb fun k hk => (h.lt k hk).1
theorem Ext.block {base : Nat} {w w' : World} {v v' : Value} {xs ys : List Int} (h : Owns base w v xs) (a : Ext base w v w' v' ys) {b t : Nat} {cs : Array Value} (hb : w.heap[b]? = some (.cells cs t (0, 0))) (ht : t ≠ 5) : w'.heap[b]? = some (.cells cs t (0, 0)) := by
  rw [a.grown.block b (Array.getElem?_eq_some_iff.1 hb).1 (fun e => ?_)]
  · exact hb
  · rcases h.2 with ⟨rfl, _⟩ | ⟨g, cap, cur, rfl, _, hg, _⟩
    · simp [Value.ownBlock] at e
    · simp [Value.ownBlock] at e
      subst e
      rw [hg] at hb
      simp only [Option.some.injEq, Obj.cells.injEq] at hb
      exact ht hb.2.1.symm
/-- A new block of another kind ahead of what is done to an owned slice. -/
theorem Ext.allocFirst {base : Nat} {w w' : World} {v v' : Value} {xs ys : List Int} {o : Obj} (h : Owns base w v xs) (a : Ext base (w.alloc o) v w' v' ys) : Ext base w v w' v' ys := by
  have h0 : Ext base w v (w.alloc o) v xs := ⟨h.alloc o, World.grownBy_alloc w o _, fun _ hk _ => hk⟩
  exact h0.trans a
/-- A slice that was nil: all that was there stays. -/
theorem Ext.belowNil {base : Nat} {w w' : World} {v' : Value} {ys : List Int} (a : Ext base w nilS w' v' ys) : Below w.heap.size w w' :=
  ⟨a.grown.os, a.grown.tape, a.grown.output, a.grown.size, fun k hk => a.grown.block k hk (by simp [Value.ownBlock])⟩
theorem info5 : (Tryz.prog.info? 5).map (fun i => (i.zero, i.size, i.bytes)) = some (some (.int .u8 0), 1, 1) := by kernel_rfl

/-- Bytes are appended. -/
theorem run_app {base B : Nat} {w : World} {v u : Value} {xs zs : List Int} (ty : TypeId) (hown : Owns base w v xs) (hs : Sl B w u zs) (hbase : base ≤ w.heap.size) (hlen : xs.length + zs.length ≤ 140737488355328) :
    ∃ v' w', (Builtin.append_ #[34, 34] ty #[v, u]).run Tryz.prog w = .ok v' w' ∧ Ext base w v w' v' (xs ++ zs) := by
  obtain ⟨i, hi, hz0, hz1, hz2⟩ := info_parts info5
  have em : (xs ++ zs).map (Value.int .u8) = xs.map (Value.int .u8) ++ zs.map (Value.int .u8) := List.map_append
  have el : (xs ++ zs).length = xs.length + zs.length := List.length_append
  obtain ⟨ao, c, rfl, hc1, hc2, hB, hnil, hcells⟩ := hs
  cases ao with
  | none =>
    have hc0 := hnil rfl
    have hz : zs = [] := List.length_eq_zero_iff.1 (by omega)
    subst hz
    subst hc0
    refine ⟨v, w, run_append_owned_none w base 34 ty 5 i 1 Tryz.underlying34 hi v _ _ hown, ?_⟩
    rw [List.append_nil]
    exact Ext.refl hown
  | some ad =>
    have hnews : ∀ j u, (zs.map (Value.int .u8))[j]? = some u → w.cell? (ad.add j) = some u := by
      intro j u hu
      have hj : j < zs.length := by
        have := (List.getElem?_eq_some_iff.1 hu).1
        simpa using this
      obtain ⟨b, o, _, e, hcl⟩ := hcells (fun e => by subst e; simp at hj)
      simp only [Option.some.injEq] at e
      subst e
      rw [Addr.add_mid, hcl j hj, ← hu, List.getElem?_map, List.getD_eq_getElem?_getD, List.getElem?_eq_getElem hj]; rfl
    have hl : (zs.map (Value.int .u8)).length = zs.length * 1 := by simp
    rcases hown.2 with ⟨rfl, h0⟩ | ⟨g, cap, cur, rfl, hbg, hg, hcap, hmax, hsz, htake⟩
    · have hx : xs = [] := List.length_eq_zero_iff.1 h0
      subst hx
      obtain ⟨v', w', hr, h2, h3, _⟩ := run_append_own (P := Tryz.prog) w w.heap.size 34 ty 5 i (.int .u8 0) 1 1 Tryz.underlying34 hi hz0 hz1 hz2 rfl (by decide) nilS 0 [] (World.ownsRow_nil _ _ _ _) ad zs.length c (zs.map (Value.int .u8)) hl hnews (ints_oneCell _ _) (by unfold maxLen; omega) (by omega) (Nat.le_refl _)
      refine ⟨v', w', hr, ?_, h3, fun k hk hlt => ?_⟩
      · have h2' : w'.ownsRow w.heap.size 5 1 v' zs.length (zs.map (Value.int .u8)) := by simpa using h2
        refine ⟨by simp, ?_⟩
        rcases h2'.2 with ⟨rfl, e⟩ | ⟨g', cap', cur', rfl, hb', r⟩
        · exact Or.inl ⟨rfl, by simpa using e⟩
        · exact Or.inr ⟨g', cap', cur', by simp, by omega, by simpa using r⟩
      · exact absurd (h2.lt k hk).1 (by omega)
    · by_cases hroom : xs.length + zs.length ≤ cap
      · obtain ⟨w', hr, h2, h3⟩ := run_append_fits (P := Tryz.prog) w base 34 ty 5 i 1 Tryz.underlying34 hi hz1 g xs.length cap _ hown ad zs.length c (zs.map (Value.int .u8)) hl hnews (ints_oneCell _ _) hroom
        refine ⟨_, w', hr, ?_, h3, fun k hk _ => hk⟩
        unfold Owns
        rw [em, el]; exact h2
      · obtain ⟨v', w', hr, h2, h3⟩ := run_append_arg_grows (P := Tryz.prog) w 34 ty 5 i (.int .u8 0) 1 1 Tryz.underlying34 hi hz0 hz1 hz2 rfl (by decide) ⟨g, 0, none⟩ xs.length cap (xs.map (Value.int .u8)) (by simp) (hown.cells rfl) ad zs.length c (zs.map (Value.int .u8)) hl hnews (by omega) (by unfold maxLen; omega) (by omega)
        refine ⟨v', w', hr, ?_, ⟨h3.os, h3.tape, h3.output, h3.size, fun k hk _ => h3.block k hk (by simp)⟩, fun k hk hlt => absurd (h2.lt k hk).1 (by omega)⟩
        unfold Owns
        rw [em, el]
        refine ⟨h2.1, ?_⟩
        rcases h2.2 with h' | ⟨g', cap', cur', e', hb', r⟩
        · exact Or.inl h'
        · exact Or.inr ⟨g', cap', cur', e', by omega, r⟩

/-- Bytes are appended, in a walk. -/
theorem app22 {ops : Array Oper} {rest : List Oper} {o : Oper} {a : Act} {w : World} {Q : Exit → Act → World → Prop} (s x : Operand) (ho : o.op = .call { callee := .builtin .append, args := #[s, x], argTypes := #[34, 34] })
    (hw : Region.wanted o (yielded ops a.tmps) = true) {base B : Nat} {v u : Value} {xs zs : List Int} (hs : a.eval s = v) (hx : a.eval x = u) (hown : Owns base w v xs) (hsl : Sl B w u zs) (hbase : base ≤ w.heap.size) (hlen : xs.length + zs.length ≤ 140737488355328)
    (h : ∀ v' w', Ext base w v w' v' (xs ++ zs) → wpList Tryz.prog ops Q rest (a.put o.dst v') w') : wpList Tryz.prog ops Q (o :: rest) a w := by
  obtain ⟨v', w', hr, hE⟩ := run_app (ty := o.type) hown hsl hbase hlen
  unfold wpList
  rw [if_pos hw]
  refine Or.inl ?_
  unfold Oper.wp execOp
  simp only [ho, resolve, invoke, builtin, Sem.run_bind, Sem.run_pure, Result.andThen_ok, List.map_toArray, List.map_cons, List.map_nil, hs, hx, hr]
  exact h v' w' hE
/-- One new byte in a block of its own. -/
theorem sl_one (w : World) (x : Int) (h0 : 0 ≤ x) (h1 : x < 256) : Sl (w.heap.size + 1) (w.alloc (.cells #[.int .u8 x] 5)) (.slice (some ⟨w.heap.size, 0, none⟩) 1 1) [x] :=
  ⟨_, 1, rfl, by simp, by simp, IsB.cons h0 h1 IsB.nil, (fun h => by cases h), fun _ => ⟨w.heap.size, 0, by omega, rfl, fun j hj => by
    have : j = 0 := by simpa using hj
    subst this; simp⟩⟩

theorem Ext.on {base : Nat} {w w1 w2 : World} {v v1 : Value} {xs : List Int} (h : Ext base w v w1 v1 xs) (hb : Below w1.heap.size w1 w2) : Ext base w v w2 v1 xs := by
  refine h.trans ⟨?_, ⟨hb.os, hb.tape, hb.output, hb.size, fun k hk _ => hb.block k hk⟩, fun _ hk _ => hk⟩
  refine h.own.kept (row := none) ⟨hb.os, hb.tape, hb.output, hb.size, fun k hk _ => hb.block k hk⟩ ?_
  cases v1.ownBlock <;> simp
theorem owns_one {base : Nat} (w : World) (x : Int) (hb : base ≤ w.heap.size) : Owns base (w.alloc (.cells #[.int .u8 x] 5)) (.slice (some ⟨w.heap.size, 0, none⟩) 1 1) [x] :=
  ⟨by simp, Or.inr ⟨w.heap.size, 1, #[.int .u8 x], rfl, hb, heap_alloc_new _ _, by simp, by unfold maxLen; omega, by simp, by simp⟩⟩
def u8s (bs : List Int) : List UInt8 := bs.map fun x => UInt8.ofNat x.toNat
def str (bs : List Int) : ByteArray := ⟨(u8s bs).toArray⟩
theorem u8_inj {x y : Int} (hx : 0 ≤ x ∧ x < 256) (hy : 0 ≤ y ∧ y < 256) (h : UInt8.ofNat x.toNat = UInt8.ofNat y.toNat) : x = y := by
  have := congrArg UInt8.toNat h
  simp only [UInt8.toNat_ofNat'] at this
  omega
theorem u8s_inj : ∀ {a b : List Int}, IsB a → IsB b → u8s a = u8s b → a = b
  | [], [], _, _, _ => rfl
  | [], _ :: _, _, _, h => by simp [u8s] at h
  | _ :: _, [], _, _, h => by simp [u8s] at h
  | x :: a, y :: b, ha, hb, h => by
    simp only [u8s, List.map_cons, List.cons.injEq] at h
    rw [u8_inj ha.head hb.head h.1, u8s_inj ha.tail hb.tail h.2]
theorem str_beq {a b : List Int} (ha : IsB a) (hb : IsB b) : ((str a).toList == (str b).toList) = (a == b) := by
  rw [Bool.eq_iff_iff, beq_iff_eq, beq_iff_eq, ByteArray.toList_eq, ByteArray.toList_eq]
  constructor
  · intro h
    exact u8s_inj ha hb (by simpa [str] using h)
  · rintro rfl; rfl
theorem conv_sl {B : Nat} {w : World} {v : Value} {bs : List Int} (h : Sl B w v bs) : (convert 34 9 v).run Tryz.prog w = .ok (.string (str bs)) w := by
  obtain ⟨ao, cap, rfl, h1, h2, hB, hnil, hcells⟩ := h
  cases ao with
  | none =>
    have h0 := hnil rfl
    have hz : bs = [] := List.length_eq_zero_iff.1 (by omega)
    subst hz
    subst h0
    show (convert 34 9 (.slice none 0 0)).run Tryz.prog w = _
    rw [run_convert_bytes_string w 34 9 5 none 0 0 Tryz.underlying34 Tryz.underlying5 Tryz.underlying9]
    simp [Conv.bytesToString]
    rfl
  | some ad =>
    have hl : bs.length = (u8s bs).length := by simp [u8s]
    rw [hl]
    refine run_convert_bytes_back w 34 9 5 ad cap (u8s bs) Tryz.underlying34 Tryz.underlying5 Tryz.underlying9 fun j hj => ?_
    rw [← hl] at hj
    obtain ⟨b, o, _, e, hc⟩ := hcells (fun e => by subst e; simp at hj)
    simp only [Option.some.injEq] at e
    subst e
    have hx := hB.at j
    rw [Addr.add_mid, hc j hj]
    simp only [u8s, List.getElem_map, UInt8.toNat_ofNat']
    rw [List.getD_eq_getElem?_getD, List.getElem?_eq_getElem hj, Option.getD_some] at hx ⊢
    congr 2
    omega

theorem isB_of {l : List Int} (h : l.all (fun x => decide (0 ≤ x) && decide (x < 256)) = true) : IsB l := fun x hx => by
  have := List.all_eq_true.1 h x hx
  simpa using this
/-- A slice of bytes written out. -/
theorem sl_lit (w : World) (bs : List Int) (hB : IsB bs) (hl : bs.length ≤ 1000) : Sl (w.heap.size + 1) (w.alloc (.cells (bs.map (Value.int .u8)).toArray 5)) (.slice (some ⟨w.heap.size, 0, none⟩) bs.length bs.length) bs :=
  ⟨_, bs.length, rfl, Nat.le_refl _, by omega, hB, (fun h => by cases h), fun _ => ⟨w.heap.size, 0, by omega, rfl, fun j hj => by
    rw [Nat.zero_add, World.cell?_alloc_new]
    simp only [List.getElem?_toArray, List.getElem?_map, List.getElem?_eq_getElem hj, List.getD_eq_getElem?_getD]
    rfl⟩⟩
theorem Sl.drew {B : Nat} {w : World} {v : Value} {bs : List Int} (h : Sl B w v bs) : Sl B w.drew v bs := h.on (Below.refl _ _).drew
theorem owns_empty {base : Nat} (w : World) (hb : base ≤ w.heap.size) : Owns base (w.alloc (.cells #[] 5)) (.slice (some ⟨w.heap.size, 0, none⟩) 0 0) [] :=
  ⟨by simp, Or.inr ⟨w.heap.size, 0, #[], rfl, hb, heap_alloc_new _ _, by simp, by unfold maxLen; omega, by simp, by simp⟩⟩
/-- A slice that is the call's own: its form and its bytes. -/
theorem Owns.open {base : Nat} {w : World} {v : Value} {ys : List Int} (h : Owns base w v ys) (hl : ys.length ≤ 4096) (hb : IsB ys) :
    ∃ ao c, v = .slice ao ys.length c ∧ (ys ≠ [] → ∃ g o, base ≤ g ∧ g < w.heap.size ∧ ao = some ⟨g, o, none⟩ ∧ ∀ j, j < ys.length → w.cell? ⟨g, o + j, none⟩ = some (.int .u8 (ys.getD j 0))) := by
  have hs := Sl.own h (by omega) hb
  obtain ⟨ao, c, rfl, _, _, _, _, q⟩ := hs
  refine ⟨ao, c, rfl, fun hne => ?_⟩
  obtain ⟨g, o, h1, rfl, h3⟩ := q hne
  have := h.lt g (by simp [Value.ownBlock])
  exact ⟨g, o, this.1, h1, rfl, h3⟩

end Go.Proofs.YtllbbbfkdgjffaaGreatDoor
