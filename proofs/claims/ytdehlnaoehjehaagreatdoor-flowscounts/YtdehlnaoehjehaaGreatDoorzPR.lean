/-
  Proved here: slices.Delete of one row leaves it out, in place. Conditions: the place is one of the list's; fewer than 2 to 31.
-/
/-
  Proved here: what the memory of a row of rules is (RowM), of a table (TabM); what stays as worlds go on. No condition.
-/
/-
  Proved here: higher of package tuples; placed at rows puts one to its place, by its top. Condition: fewer than 2 to 31 rows.
-/
import Derived.Test.YtdehlnaoehjehaaGreatDoorzIR
import Derived.Test.YtdehlnaoehjehaaGreatDoorzPE
namespace Go.Proofs.YtdehlnaoehjehaaGreatDoor
set_option maxRecDepth 100000
open Go.RowKit

theorem zeroP : ∀ w, (zeroValue 218).run Tryz.prog w = .ok (.pointer none) w := fun w => by simp [go_sem]
set_option maxHeartbeats 1600000 in
set_option maxRecDepth 100000 in
theorem del_any {S : Nat → Prop} (w : World) (v : Value) (n i : Nat) (xs : List Value) (h : Rw S 1 218 w v n xs) (hi : i < n) (hn : n < 2147483648) (h1 : ∀ x ∈ xs, x.oneCell' = true) :
    Calls Tryz.prog 181 #[v, .int .i64 i, .int .i64 ((i : Int) + 1)] w fun r w' => ∃ v', r = .returned v' ∧ Apd w v w' ∧ Rw S 1 218 w' v' (n - 1) (xs.eraseIdx i) := by
  obtain ⟨i0, hi0, hz0, hz1, hz2⟩ := info_parts infoinR
  rcases h with ⟨hx, ⟨rfl, rfl⟩ | ⟨g, o, cap, cur, rfl, h2, h3, h4, h5, h6⟩⟩
  · omega
  rw [Nat.mul_one] at hx h5 h6
  obtain ⟨news, hnews⟩ : ∃ news, news = xs.drop (i + 1) := ⟨_, rfl⟩
  have hlen : news.length = n - (i + 1) := by rw [hnews, List.length_drop, hx]
  have hcell : ∀ t, w.drew.cell? ⟨g, o + t, none⟩ = cur[o + t]? := fun t => cell_of_row w g _ cur 218 (0, 0) h3
  have hfro : ∀ t, w.drew.frozen? ⟨g, t, none⟩ = false := fun t => by show w.frozen? _ = _; simp [World.frozen?, h3]
  obtain ⟨A, hA, hsrc⟩ : ∃ A : Addr, (if cap = i + 1 then some (⟨g, o, none⟩ : Addr) else some ⟨g, o + (i + 1), none⟩) = some A ∧ Hid (∀ t u, news[t]? = some u → w.drew.cell? (A.add t) = some u) := by
    by_cases h : cap = i + 1
    · refine ⟨⟨g, o, none⟩, by simp [h], fun t u hu => ?_⟩
      have h0 : news.length = 0 := by rw [hlen]; omega
      rw [List.length_eq_zero_iff.1 h0] at hu
      simp at hu
    · refine ⟨⟨g, o + (i + 1), none⟩, by simp [h], fun t u hu => ?_⟩
      have ht : t < n - (i + 1) := by
        have := (List.getElem?_eq_some_iff.1 hu).1
        rwa [hlen] at this
      rw [Addr.add_lit, show o + (i + 1) + t = o + (i + 1 + t) by omega, hcell, cells_at h6 (by omega), ← hu, hnews, List.getElem?_drop]
  have s1 : Hid (news.length = (n - (i + 1)) * 1) := by show _ = _; rw [Nat.mul_one]; exact hlen
  have s2 : Hid (∀ u ∈ news, u.oneCell' = true) := fun u hu => h1 u (by rw [hnews] at hu; exact List.mem_of_mem_drop hu)
  have s3 : Hid (∀ t, t < news.length → (w.drew.cell? ⟨g, o + i * 1 + t, none⟩).isSome = true ∧ w.drew.frozen? ⟨g, o + i * 1 + t, none⟩ = false) := by
    intro t ht
    rw [hlen] at ht
    rw [Nat.mul_one, Nat.add_assoc]
    exact ⟨by rw [hcell, Array.getElem?_eq_getElem (by omega)]; rfl, hfro _⟩
  obtain ⟨W1, hW1⟩ : ∃ W1, W1 = w.drew.setCells g (o + i * 1) news := ⟨_, rfl⟩
  obtain ⟨cur1, f1, f2, f3, f4, f5, f6⟩ := setCells_all g news (o + i * 1) w.drew cur 218 h3
  rw [← hW1] at f1 f5 f6
  rw [Nat.mul_one, hlen] at f3 f4
  have hcl : ∀ ty, (Builtin.clear_ #[213] ty #[.slice (some ⟨g, o + (n - 1), none⟩) (n - (n - 1)) (cap - (n - 1))]).run Tryz.prog W1 = .ok (.tuple #[]) (W1.setCells g (o + (n - 1)) (List.replicate (n - (n - 1)) (.pointer none))) :=
    fun ty => Lib.run_clear_slice W1 213 218 ty _ Tryz.underlying213 zeroP rfl rfl g (o + (n - 1)) _ _ (by omega) (fun t ht => by rw [cell_of_row W1 g _ cur1 218 (0, 0) f1, Array.getElem?_eq_getElem (by omega)]; rfl) (fun t ht => by simp [World.frozen?, f1])
  obtain ⟨W2, hW2⟩ : ∃ W2, W2 = W1.setCells g (o + (n - 1)) (List.replicate (n - (n - 1)) (.pointer none)) := ⟨_, rfl⟩
  rw [← hW2] at hcl
  obtain ⟨cur2, g1, g2, g3, g4, g5, g6⟩ := setCells_all g (List.replicate (n - (n - 1)) (.pointer none)) (o + (n - 1)) W1 cur1 218 f1
  rw [← hW2] at g1 g5 g6
  have hel : (xs.eraseIdx i).length = n - 1 := by rw [List.length_eraseIdx_of_lt (by omega), hx]
  have HR : Hid (Apd w (.slice (some ⟨g, o, none⟩) n cap) W2 ∧ Rw S 1 218 W2 (.slice (some ⟨g, o, none⟩) (n - 1) cap) (n - 1) (xs.eraseIdx i)) := by
    have hoth : ∀ j, j ≠ g → W2.heap[j]? = w.heap[j]? := fun j hj => (g5 j hj).trans (f5 j hj)
    refine ⟨⟨g6.os.trans f6.os, g6.tape.trans f6.tape, g6.output.trans f6.output, Nat.le_trans f6.size g6.size, fun j _ hne => hoth j (fun e => hne (by simp [Value.ownBlock, e]))⟩, by rw [Nat.mul_one]; exact hel, Or.inr ⟨g, o, cap, cur2, rfl, h2, g1, by omega, by omega, ?_⟩⟩
    rw [Nat.mul_one]
    apply List.ext_getElem?
    intro j
    rw [List.getElem?_take]
    by_cases hj : j < n - 1
    · rw [if_pos hj, List.getElem?_drop, Array.getElem?_toList, g3 (o + j) (Or.inl (by omega)), List.getElem?_eraseIdx]
      by_cases hji : j < i
      · rw [if_pos hji, f3 (o + j) (Or.inl (by omega)), cells_at h6 (by omega)]
      · rw [if_neg hji]
        have := f4 (j - i) (by omega) (by omega)
        rw [show o + i + (j - i) = o + j by omega] at this
        rw [this, hnews, List.getElem?_drop, show i + 1 + (j - i) = j + 1 by omega]
    · rw [if_neg hj, List.getElem?_eq_none (by omega)]
  have hW : Hid (W1 = w.drew.setCells g (o + i * 1) news) := hW1
  have hW' : Hid (W2 = W1.setCells g (o + (n - 1)) (List.replicate (n - (n - 1)) (.pointer none))) := hW2
  have hw1 : IntKind.i64.wrap ((i : Int) + 1) = (i : Int) + 1 := by rw [IntKind.wrap_i64]; omega
  have hb1 : (0 : Int) ≤ (i : Int) + 1 := by omega
  have htn : ((i : Int) + 1).toNat = i + 1 := by omega
  have hic : i ≤ cap := by omega
  have hic1 : i + 1 ≤ cap := by omega
  have hin1 : i + 1 ≤ n := by omega
  have hii : ¬ ((i : Int) = (i : Int) + 1) := by omega
  have hbe : ((i : Int) == (i : Int) + 1) = false := beq_eq_false_iff_ne.2 hii
  have hle1 : (i : Int) + 1 ≤ (n : Int) := by omega
  have hle2 : (i : Int) ≤ (i : Int) + 1 := by omega
  have hin : i + (n - (i + 1)) = n - 1 := by omega
  have hnn : n - 1 ≤ n := by omega
  have hnm : ¬ (cap = n - 1) := by omega
  clear hW1 hW2 hcell hfro hlen hnews f1 f2 f3 f4 f5 f6 g1 g2 g3 g4 g5 g6 h6 h3 hx hel
  go_enter Tryz.func181, Tryz.ntmps181
  go_wp2_with fail
  go_region_law (refine step_append_room rfl (.tmp 22) (.tmp 25) 213 rfl 218 i0 1 Tryz.underlying213 hi0 hz1 g o i cap (by simp [Act.eval, Act.put]) A (n - (i + 1)) (cap - (i + 1)) news (by simp [Act.eval, Act.put]) s1.out hsrc.out s2.out (by omega) s3.out ?_; rw [← hW.out, hin])
  all_goals (go_wp2; go_ret; exact ⟨_, rfl, HR.out⟩)
end Go.Proofs.YtdehlnaoehjehaaGreatDoor
namespace Go.Proofs.YtdehlnaoehjehaaGreatDoor
set_option maxRecDepth 100000
open Go.RowKit

/-- Whose a block is. -/
inductive Tag where
  | tab | mat | rows
  | row (p : Nat)
  | cls (p : Nat)
  | ent (p : Nat) (l : Lit)
/-- Of the row at p. -/
def Tg (p : Nat) : Tag → Prop
  | .row q => q = p
  | .cls q => q = p
  | .ent q _ => q = p
  | _ => False
/-- A row: its block, its map's block, how many keys, its mask, its top, what the map holds, the entries at each key. -/
structure Ro where
  p : Nat
  bc : Nat
  n : Nat
  mask : Nat → Int
  top : Int
  G : Lit → Option Value
  E : Lit → List En
def rcs (mask : Nat → Int) (top : Int) (bc : Nat) : Array Value := row 11 mask ++ #[.int .i64 top, .map (some bc)]
theorem rcs_size (mask : Nat → Int) (top : Int) (bc : Nat) : (rcs mask top bc).size = 13 := by simp [rcs, row_size]
theorem rcs_mask (mask : Nat → Int) (top : Int) (bc : Nat) (k : Nat) (hk : k < 11) : (rcs mask top bc)[k]? = some (.int .u64 (mask k)) := by
  unfold rcs
  rw [Array.getElem?_append_left (by rw [row_size]; exact hk), row_at 11 mask k hk]
theorem rcs_top (mask : Nat → Int) (top : Int) (bc : Nat) : (rcs mask top bc)[11]? = some (.int .i64 top) := by
  unfold rcs
  rw [Array.getElem?_append_right (by rw [row_size]; omega), row_size]; rfl
theorem rcs_map (mask : Nat → Int) (top : Int) (bc : Nat) : (rcs mask top bc)[12]? = some (.map (some bc)) := by
  unfold rcs
  rw [Array.getElem?_append_right (by rw [row_size]; omega), row_size]; rfl
theorem rcs_set (mask : Nat → Int) (top t : Int) (bc : Nat) : (rcs mask top bc).setIfInBounds 11 (.int .i64 t) = rcs mask t bc := by
  apply Array.ext_getElem?
  intro k
  rw [Array.getElem?_setIfInBounds, rcs_size]
  by_cases h : 11 = k
  · subst h; rw [if_pos rfl, if_pos (by omega), rcs_top]
  · rw [if_neg h]
    by_cases hk : k < 11
    · rw [rcs_mask _ _ _ _ hk, rcs_mask _ _ _ _ hk]
    · by_cases h12 : k = 12
      · subst h12; rw [rcs_map, rcs_map]
      · rw [Array.getElem?_eq_none (by rw [rcs_size]; omega), Array.getElem?_eq_none (by rw [rcs_size]; omega)]
structure RowM (S : Nat → Prop) (o : Nat → Tag) (w : World) (ρ : Ro) : Prop where
  sp : S ρ.p
  op : o ρ.p = .row ρ.p
  hp : w.heap[ρ.p]? = some (.cells (rcs ρ.mask ρ.top ρ.bc) 223 (0, 0))
  sc : S ρ.bc
  oc : o ρ.bc = .cls ρ.p
  mp : Mp w 30 ρ.bc ρ.n ρ.G
  wf : Wf ρ.mask
  hit : ∀ l, (ρ.G l = none ∧ ρ.E l = []) ∨ ∃ v, ρ.G l = some v ∧ ρ.E l ≠ [] ∧ Rw (fun b => S b ∧ o b = .ent ρ.p l) 2 217 w v (ρ.E l).length (ces (ρ.E l))
theorem RowM.carry {S T : Nat → Prop} {o o' : Nat → Tag} {w w' : World} {ρ : Ro} (h : RowM S o w ρ) (hc : ∀ b, b < w.heap.size → S b → Tg ρ.p (o b) → T b ∧ o' b = o b ∧ w'.heap[b]? = w.heap[b]?) : RowM T o' w' ρ := by
  have hpl := (Array.getElem?_eq_some_iff.1 h.hp).1
  have h1 := hc ρ.p hpl h.sp (by rw [h.op]; rfl)
  have h2 := hc ρ.bc h.mp.lt h.sc (by rw [h.oc]; rfl)
  refine ⟨h1.1, h1.2.1.trans h.op, h1.2.2.trans h.hp, h2.1, h2.2.1.trans h.oc, h.mp.carry h2.2.2, h.wf, fun l => ?_⟩
  rcases h.hit l with h3 | ⟨v, h3, h4, h5⟩
  · exact Or.inl h3
  · exact Or.inr ⟨v, h3, h4, h5.carry fun b hb hS => by
      have := hc b hb hS.1 (by rw [hS.2]; rfl)
      exact ⟨⟨this.1, this.2.1.trans hS.2⟩, this.2.2⟩⟩
/-- The table: how many were added, the map of matches, the rows. -/
structure TabM (S : Nat → Prop) (o : Nat → Tag) (w : World) (g : Nat) (ad : Int) (bm nm : Nat) (Gm : Lit → Option Value) (vr : Value) (rs : List Ro) : Prop where
  sg : S g
  og : o g = .tab
  hg : w.heap[g]? = some (.cells #[.int .i64 ad, .map (some bm), vr] 215 (0, 0))
  sm : S bm
  om : o bm = .mat
  mm : Mp w 3 bm nm Gm
  row : Rw (fun b => S b ∧ o b = .rows) 1 218 w vr rs.length (rs.map fun ρ => Value.pointer (some ⟨ρ.p, 0, none⟩))
  all : ∀ ρ ∈ rs, RowM S o w ρ
  ne : rs.Pairwise fun a b => a.p ≠ b.p
theorem TabM.carry {S T : Nat → Prop} {o o' : Nat → Tag} {w w' : World} {g : Nat} {ad : Int} {bm nm : Nat} {Gm : Lit → Option Value} {vr : Value} {rs : List Ro} (h : TabM S o w g ad bm nm Gm vr rs) (hc : ∀ b, b < w.heap.size → S b → (o b = .tab ∨ o b = .mat ∨ o b = .rows ∨ ∃ ρ ∈ rs, Tg ρ.p (o b)) → T b ∧ o' b = o b ∧ w'.heap[b]? = w.heap[b]?) : TabM T o' w' g ad bm nm Gm vr rs := by
  have hgl := (Array.getElem?_eq_some_iff.1 h.hg).1
  have h1 := hc g hgl h.sg (Or.inl h.og)
  have h2 := hc bm h.mm.lt h.sm (Or.inr (Or.inl h.om))
  exact ⟨h1.1, h1.2.1.trans h.og, h1.2.2.trans h.hg, h2.1, h2.2.1.trans h.om, h.mm.carry h2.2.2, h.row.carry fun b hb hS => by
    have := hc b hb hS.1 (Or.inr (Or.inr (Or.inl hS.2)))
    exact ⟨⟨this.1, this.2.1.trans hS.2⟩, this.2.2⟩, fun ρ hρ => (h.all ρ hρ).carry fun b hb hS hT => hc b hb hS (Or.inr (Or.inr (Or.inr ⟨ρ, hρ, hT⟩))), h.ne⟩
/-- Cells of a row's block. -/
theorem RowM.cells {S : Nat → Prop} {o : Nat → Tag} {w : World} {ρ : Ro} (h : RowM S o w ρ) : w.cell? ⟨ρ.p, 11, none⟩ = some (.int .i64 ρ.top) ∧ w.cell? ⟨ρ.p, 12, none⟩ = some (.map (some ρ.bc)) ∧ w.frozen? ⟨ρ.p, 11, none⟩ = false ∧ w.rangeAt ρ.p 0 (row 11 ρ.mask).toList := by
  refine ⟨by rw [cell_of_row _ _ _ _ _ _ h.hp, rcs_top], by rw [cell_of_row _ _ _ _ _ _ h.hp, rcs_map], by simp [World.frozen?, h.hp], range_of fun i hi => ?_⟩
  rw [row_size] at hi
  rw [Nat.zero_add, cell_of_row _ _ _ _ _ _ h.hp, rcs_mask _ _ _ _ hi, row_at 11 _ _ hi]
theorem sizeH (h : Nat → Int) : (Tryz.prog.info? 30).map (·.size) = some (row 11 h).size := by rw [row_size]; kernel_rfl
theorem zeroEs (w : World) : (zeroValue 252).run Tryz.prog w = .ok nilS w := by simp [go_sem]
end Go.Proofs.YtdehlnaoehjehaaGreatDoor
namespace Go.Proofs.YtdehlnaoehjehaaGreatDoor
set_option maxRecDepth 100000
open Go.RowKit

abbrev pv (p : Nat) : Value := .pointer (some ⟨p, 0, none⟩)
theorem higher_any (p q : Nat) (a b : Int) (w : World) (hp : w.cell? ⟨p, 11, none⟩ = some (.int .i64 a)) (hq : w.cell? ⟨q, 11, none⟩ = some (.int .i64 b)) :
    Calls Tryz.prog 185 #[pv p, pv q] w fun e w' => e = .returned (.bool (decide (b < a))) ∧ Below w.heap.size w w' := by
  have hbd : Hid (Below w.heap.size w w) := Below.refl _ _
  go_enter Tryz.func185, Tryz.ntmps185
  go_wp2_with fail
  go_quiet (fail)
  go_wp2
  go_ret
  exact ⟨rfl, ⟨rfl, rfl, rfl, Nat.le_refl _, fun _ _ => rfl⟩⟩
/-- Where a row of that top goes, from the first q on. -/
def posr (l : List Ro) (t : Int) : Nat → Nat
  | 0 => 0
  | k + 1 => if (l[k]?.map Ro.top).getD 0 < t then posr l t k else k + 1
theorem posr_le (l : List Ro) (t : Int) : ∀ k, posr l t k ≤ k
  | 0 => Nat.le_refl _
  | k + 1 => by
    have := posr_le l t k
    unfold posr
    split <;> omega
def placeR (l : List Ro) (x : Ro) : List Ro := l.take (posr l x.top l.length) ++ [x] ++ l.drop (posr l x.top l.length)
abbrev pts (l : List Ro) : List Value := l.map fun ρ => pv ρ.p
theorem pts_one (l : List Ro) : ∀ x ∈ pts l, x.oneCell' = true := by
  intro x hx
  obtain ⟨q, hq, rfl⟩ := List.mem_map.1 hx
  rfl
/-- What placed leaves. -/
def PlR (S : Nat → Prop) (w : World) (v : Value) (l : List Ro) (r : Ending) (w' : World) : Prop := ∃ v', r = .returned v' ∧ Apd w v w' ∧ Rw (fun b => S b ∨ w.heap.size ≤ b) 1 218 w' v' l.length (pts l)
theorem plR_fin {S : Nat → Prop} {w wr : World} {v : Value} {l : List Ro} {x : Ro} {q : Nat} (h : Rw S 1 218 w v l.length (pts l)) (hb : Below w.heap.size w wr) (hq : posr l x.top l.length = q) (hql : q ≤ l.length) (hn : l.length < 2147483647) :
    Calls Tryz.prog 212 #[v, .int .i64 (q : Nat), .slice (some ⟨wr.heap.size, 0, none⟩) 1 1] (wr.alloc (.cells #[pv x.p] 218)) fun r w' => PlR S w v (placeR l x) r w' := by
  have hs := hb.size
  have hw : Below w.heap.size w (wr.alloc (.cells #[pv x.p] 218)) := hb.alloc hs _
  have hR : Rw S 1 218 (wr.alloc (.cells #[pv x.p] 218)) v l.length (pts l) := h.carry fun b hb' hS => ⟨hS, hw.block b hb'⟩
  refine (inR_any _ v l.length q wr.heap.size (pts l) [pv x.p] hR hql rfl hn (heap_alloc_new _ _) (fun e => by have := h.ownLt _ e; omega) (pts_one l) (fun x hx => by rw [List.mem_singleton.1 hx]; rfl)).mono ?_
  rintro r w' ⟨v', rfl, hA, hR'⟩
  have hs2 := hw.size
  have hpl : (placeR l x).length = l.length + 1 := by unfold placeR; rw [hq]; simp; omega
  refine ⟨v', rfl, ⟨hA.os.trans hw.os, hA.tape.trans hw.tape, hA.output.trans hw.output, Nat.le_trans hs2 hA.size, fun k hk hne => by rw [hA.block k (by omega) hne, hw.block k hk]⟩, ?_⟩
  rw [hpl]
  have e1 : pts (placeR l x) = (pts l).take q ++ [pv x.p] ++ (pts l).drop q := by
    unfold placeR pts; rw [hq]; simp only [List.map_append, List.map_take, List.map_drop, List.map_cons, List.map_nil]
  rw [e1]
  refine hR'.carry fun b _ hS => ⟨?_, rfl⟩
  rcases hS with hS | hS
  · exact Or.inl hS
  · exact Or.inr (by omega)
set_option maxHeartbeats 1600000 in
set_option maxRecDepth 100000 in
theorem placedR_any {S : Nat → Prop} (w : World) (v : Value) (l : List Ro) (x : Ro) (h : Rw S 1 218 w v l.length (pts l)) (hx : w.cell? ⟨x.p, 11, none⟩ = some (.int .i64 x.top)) (hl : ∀ y ∈ l, w.cell? ⟨y.p, 11, none⟩ = some (.int .i64 y.top)) (hn : l.length < 2147483647) :
    Calls Tryz.prog 184 #[v, pv x.p, .func (.func 185) #[] #[]] w fun r w' => PlR S w v (placeR l x) r w' := by
  have HFin : Hid (∀ (wr : World) (q : Nat), Below w.heap.size w wr → posr l x.top l.length = q → q ≤ l.length → Calls Tryz.prog 212 #[v, .int .i64 (q : Nat), .slice (some ⟨wr.heap.size, 0, none⟩) 1 1] (wr.alloc (.cells #[pv x.p] 218)) fun r w' => PlR S w v (placeR l x) r w') := fun wr q h1 h2 h3 => plR_fin h h1 h2 h3 hn
  obtain ⟨ao, cap, rfl⟩ := h.form
  have H := hid h
  have HX := hid hx
  have HL := hid hl
  clear h hx hl
  go_enter Tryz.func184, Tryz.ntmps184
  go_upto_region 2 with fail
  go_loopw [7] (fun i wr => ∃ q : Nat, q ≤ l.length ∧ i = .int .i64 q ∧ Below w.heap.size w wr ∧ posr l x.top l.length = posr l x.top q) (fun i _ => (intOf i).toNat)
  case atStart => exact ⟨l.length, by omega, rfl, Below.refl _ _, rfl⟩
  case round =>
    obtain ⟨q, hq, rfl, hlow, hpos⟩ := hrel
    generalize wr = wx at *
    have HBx := hid hlow
    clear hlow
    by_cases hq0 : q = 0
    · subst hq0
      have HI := hid (HFin.out wx 0 HBx.out hpos (Nat.zero_le _))
      have d00 : decide ((0 : Int) < ((0 : Nat) : Int)) = false := rfl
      clear hpos HFin
      go_wp2_with (go_at_call 212; refine (HI.out).mono ?_; rintro r w5 ⟨v', rfl, h1, h2⟩; have HF := hid (And.intro h1 h2); clear h1 h2)
      go_ret
      exact ⟨_, rfl, HF.out⟩
    · obtain ⟨j, hqj⟩ : ∃ j, q = j + 1 := ⟨q - 1, by omega⟩
      have hj : j < l.length := by omega
      rcases H.out with ⟨hxl, ⟨_, hz0⟩ | ⟨g, o, cap', cur, he, hb1, hb2, hb3, hb4, hb5⟩⟩
      · omega
      obtain ⟨rfl, rfl⟩ : ao = some ⟨g, o, none⟩ ∧ cap = cap' := by simpa using he
      obtain ⟨y, hy⟩ : ∃ y : Ro, y = l[j] := ⟨_, rfl⟩
      have hgl := (Array.getElem?_eq_some_iff.1 hb2).1
      have hgx : wx.heap[g]? = some (.cells cur 218 (0, 0)) := (HBx.out.block g hgl).trans hb2
      have d0 : wx.cell? ⟨g, o + j, none⟩ = some (pv y.p) := by
        rw [cell_of_row _ _ _ _ _ _ hgx]
        have := cells_at hb5 (j := j) (by omega)
        rw [this, hy]
        simp [pts, hj]
      have hym : y ∈ l := hy ▸ List.getElem_mem hj
      have e1 : wx.cell? ⟨x.p, 11, none⟩ = some (.int .i64 x.top) := by rw [HBx.out.cell (p := ⟨x.p, 11, none⟩) (cell_lt HX.out)]; exact HX.out
      have e2 : wx.cell? ⟨y.p, 11, none⟩ = some (.int .i64 y.top) := by rw [HBx.out.cell (p := ⟨y.p, 11, none⟩) (cell_lt (HL.out y hym))]; exact HL.out y hym
      have hpd : posr l x.top q = if y.top < x.top then posr l x.top j else j + 1 := by
        rw [hqj]
        show (if (l[j]?.map Ro.top).getD 0 < x.top then _ else _) = _
        rw [List.getElem?_eq_getElem hj, ← hy]; rfl
      have HC := hid (higher_any x.p y.p x.top y.top wx e1 e2)
      have hw1 : IntKind.i64.wrap ((q : Int) - 1) = (j : Int) := by rw [IntKind.wrap_i64]; omega
      have hjl : decide ((j : Int) < (l.length : Int)) = true := decide_eq_true (by omega)
      have hq1 : decide ((0 : Int) < (q : Int)) = true := decide_eq_true (by omega)
      have hq2 : 0 < q := by omega
      have HPd := hid (hpos.trans hpd)
      have HQj := hid hqj
      clear hxl he hb1 hb2 hb3 hb4 hb5 hgl hgx hpd hpos hqj e1 e2 hym
      by_cases hlt : y.top < x.top
      · rw [decide_eq_true hlt] at HC
        have HPd' : Hid (posr l x.top l.length = posr l x.top j) := by show _ = _; rw [HPd.out, if_pos hlt]
        clear hlt hy HPd
        go_wp2_with (go_at_call 185; refine (HC.out).mono ?_; rintro r w5 ⟨rfl, hb5⟩; have HB5 := hid (HBx.out.trans (hb5.mono HBx.out.size)); clear hb5)
        go_roundw
        case rel => exact ⟨j, by have := HQj.out; omega, by go_num, HB5.out, HPd'.out⟩
        case measure => simp [intOf]; have := HQj.out; omega
      · rw [decide_eq_false hlt] at HC
        have HPd' : Hid (posr l x.top l.length = q) := by show _ = _; rw [HPd.out, if_neg hlt, HQj.out]
        clear hlt hy HPd
        go_wp2_with (first
          | (go_at_call 185; refine (HC.out).mono ?_; rintro r w5 ⟨rfl, hb5⟩; have HB5 := hid (HBx.out.trans (hb5.mono HBx.out.size)); have HI := hid (HFin.out w5 q HB5.out HPd'.out hq); clear hb5 HC)
          | (go_at_call 212; refine (HI.out).mono ?_; rintro r w6 ⟨v', rfl, h1, h2⟩; have HF := hid (And.intro h1 h2); clear h1 h2))
        go_ret
        exact ⟨_, rfl, HF.out⟩
end Go.Proofs.YtdehlnaoehjehaaGreatDoor
