/-
  Proved here: what the memory of a row of rules is (RowM), of a table (TabM); what stays as worlds go on. No condition.
-/
import Derived.Test.YtfbehaodhooaaaaGreatDoorPE
import Derived.Test.YtfbehaodhooaaaaGreatDoorDL
namespace Go.Proofs.YtfbehaodhooaaaaGreatDoor
set_option maxRecDepth 100000
open Go.RowKit

/-- Whose a block is. -/
inductive Tag where
  | tab | mat | rows
  | row (p : Nat)
  | cls (p : Nat)
  | ent (p : Nat) (l : Lit)
/-- Of the row at p. -/
def Tg (p : Nat) : Tag → Prop
  | .row q => q = p
  | .cls q => q = p
  | .ent q _ => q = p
  | _ => False
/-- A row: its block, its map's block, how many keys, its mask, its top, what the map holds, the entries at each key. -/
structure Ro where
  p : Nat
  bc : Nat
  n : Nat
  mask : Nat → Int
  top : Int
  G : Lit → Option Value
  E : Lit → List En
def rcs (mask : Nat → Int) (top : Int) (bc : Nat) : Array Value := row 11 mask ++ #[.int .i64 top, .map (some bc)]
theorem rcs_size (mask : Nat → Int) (top : Int) (bc : Nat) : (rcs mask top bc).size = 13 := by simp [rcs, row_size]
theorem rcs_mask (mask : Nat → Int) (top : Int) (bc : Nat) (k : Nat) (hk : k < 11) : (rcs mask top bc)[k]? = some (.int .u64 (mask k)) := by
  unfold rcs
  rw [Array.getElem?_append_left (by rw [row_size]; exact hk), row_at 11 mask k hk]
theorem rcs_top (mask : Nat → Int) (top : Int) (bc : Nat) : (rcs mask top bc)[11]? = some (.int .i64 top) := by
  unfold rcs
  rw [Array.getElem?_append_right (by rw [row_size]; omega), row_size]; rfl
theorem rcs_map (mask : Nat → Int) (top : Int) (bc : Nat) : (rcs mask top bc)[12]? = some (.map (some bc)) := by
  unfold rcs
  rw [Array.getElem?_append_right (by rw [row_size]; omega), row_size]; rfl
theorem rcs_set (mask : Nat → Int) (top t : Int) (bc : Nat) : (rcs mask top bc).setIfInBounds 11 (.int .i64 t) = rcs mask t bc := by
  apply Array.ext_getElem?
  intro k
  rw [Array.getElem?_setIfInBounds, rcs_size]
  by_cases h : 11 = k
  · subst h; rw [if_pos rfl, if_pos (by omega), rcs_top]
  · rw [if_neg h]
    by_cases hk : k < 11
    · rw [rcs_mask _ _ _ _ hk, rcs_mask _ _ _ _ hk]
    · by_cases h12 : k = 12
      · subst h12; rw [rcs_map, rcs_map]
      · rw [Array.getElem?_eq_none (by rw [rcs_size]; omega), Array.getElem?_eq_none (by rw [rcs_size]; omega)]
structure RowM (S : Nat → Prop) (o : Nat → Tag) (w : World) (ρ : Ro) : Prop where
  sp : S ρ.p
  op : o ρ.p = .row ρ.p
  hp : w.heap[ρ.p]? = some (.cells (rcs ρ.mask ρ.top ρ.bc) 136 (0, 0))
  sc : S ρ.bc
  oc : o ρ.bc = .cls ρ.p
  mp : Mp w 30 ρ.bc ρ.n ρ.G
  wf : Wf ρ.mask
  hit : ∀ l, (ρ.G l = none ∧ ρ.E l = []) ∨ ∃ v, ρ.G l = some v ∧ ρ.E l ≠ [] ∧ Rw (fun b => S b ∧ o b = .ent ρ.p l) 2 130 w v (ρ.E l).length (ces (ρ.E l))
theorem RowM.carry {S T : Nat → Prop} {o o' : Nat → Tag} {w w' : World} {ρ : Ro} (h : RowM S o w ρ) (hc : ∀ b, b < w.heap.size → S b → Tg ρ.p (o b) → T b ∧ o' b = o b ∧ w'.heap[b]? = w.heap[b]?) : RowM T o' w' ρ := by
  have hpl := (Array.getElem?_eq_some_iff.1 h.hp).1
  have h1 := hc ρ.p hpl h.sp (by rw [h.op]; rfl)
  have h2 := hc ρ.bc h.mp.lt h.sc (by rw [h.oc]; rfl)
  refine ⟨h1.1, h1.2.1.trans h.op, h1.2.2.trans h.hp, h2.1, h2.2.1.trans h.oc, h.mp.carry h2.2.2, h.wf, fun l => ?_⟩
  rcases h.hit l with h3 | ⟨v, h3, h4, h5⟩
  · exact Or.inl h3
  · exact Or.inr ⟨v, h3, h4, h5.carry fun b hb hS => by
      have := hc b hb hS.1 (by rw [hS.2]; rfl)
      exact ⟨⟨this.1, this.2.1.trans hS.2⟩, this.2.2⟩⟩
/-- The table: how many were added, the map of matches, the rows. -/
structure TabM (S : Nat → Prop) (o : Nat → Tag) (w : World) (g : Nat) (ad : Int) (bm nm : Nat) (Gm : Lit → Option Value) (vr : Value) (rs : List Ro) : Prop where
  sg : S g
  og : o g = .tab
  hg : w.heap[g]? = some (.cells #[.int .i64 ad, .map (some bm), vr] 128 (0, 0))
  sm : S bm
  om : o bm = .mat
  mm : Mp w 3 bm nm Gm
  row : Rw (fun b => S b ∧ o b = .rows) 1 131 w vr rs.length (rs.map fun ρ => Value.pointer (some ⟨ρ.p, 0, none⟩))
  all : ∀ ρ ∈ rs, RowM S o w ρ
  ne : rs.Pairwise fun a b => a.p ≠ b.p
theorem TabM.carry {S T : Nat → Prop} {o o' : Nat → Tag} {w w' : World} {g : Nat} {ad : Int} {bm nm : Nat} {Gm : Lit → Option Value} {vr : Value} {rs : List Ro} (h : TabM S o w g ad bm nm Gm vr rs) (hc : ∀ b, b < w.heap.size → S b → (o b = .tab ∨ o b = .mat ∨ o b = .rows ∨ ∃ ρ ∈ rs, Tg ρ.p (o b)) → T b ∧ o' b = o b ∧ w'.heap[b]? = w.heap[b]?) : TabM T o' w' g ad bm nm Gm vr rs := by
  have hgl := (Array.getElem?_eq_some_iff.1 h.hg).1
  have h1 := hc g hgl h.sg (Or.inl h.og)
  have h2 := hc bm h.mm.lt h.sm (Or.inr (Or.inl h.om))
  exact ⟨h1.1, h1.2.1.trans h.og, h1.2.2.trans h.hg, h2.1, h2.2.1.trans h.om, h.mm.carry h2.2.2, h.row.carry fun b hb hS => by
    have := hc b hb hS.1 (Or.inr (Or.inr (Or.inl hS.2)))
    exact ⟨⟨this.1, this.2.1.trans hS.2⟩, this.2.2⟩, fun ρ hρ => (h.all ρ hρ).carry fun b hb hS hT => hc b hb hS (Or.inr (Or.inr (Or.inr ⟨ρ, hρ, hT⟩))), h.ne⟩
/-- Cells of a row's block. -/
theorem RowM.cells {S : Nat → Prop} {o : Nat → Tag} {w : World} {ρ : Ro} (h : RowM S o w ρ) : w.cell? ⟨ρ.p, 11, none⟩ = some (.int .i64 ρ.top) ∧ w.cell? ⟨ρ.p, 12, none⟩ = some (.map (some ρ.bc)) ∧ w.frozen? ⟨ρ.p, 11, none⟩ = false ∧ w.rangeAt ρ.p 0 (row 11 ρ.mask).toList := by
  refine ⟨by rw [cell_of_row _ _ _ _ _ _ h.hp, rcs_top], by rw [cell_of_row _ _ _ _ _ _ h.hp, rcs_map], by simp [World.frozen?, h.hp], range_of fun i hi => ?_⟩
  rw [row_size] at hi
  rw [Nat.zero_add, cell_of_row _ _ _ _ _ _ h.hp, rcs_mask _ _ _ _ hi, row_at 11 _ _ hi]
theorem sizeH (h : Nat → Int) : (Tryz.prog.info? 30).map (·.size) = some (row 11 h).size := by rw [row_size]; kernel_rfl
theorem zeroEs (w : World) : (zeroValue 149).run Tryz.prog w = .ok nilS w := by simp [go_sem]
end Go.Proofs.YtfbehaodhooaaaaGreatDoor
