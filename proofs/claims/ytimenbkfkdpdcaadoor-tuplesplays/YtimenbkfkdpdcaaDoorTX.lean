/-
  Proved here: the program's table and the document's side by side (Tx); deals that came in (open_deals). No condition.
-/
import Derived.Test.YtimenbkfkdpdcaaDoorRN
import Derived.Test.YtimenbkfkdpdcaaDoorTQ
namespace Go.Proofs.YtimenbkfkdpdcaaDoor
open Go.ChangeShapes Go.WideShapes Go.ChangeAt Go.RowKit Go.Deep

/-- The program's table and the document's side by side; X: blocks that neither has. -/
structure Tw (w : World) (X : Nat → Prop) (W1 z : World) (v1 : Value) (g2 : Nat) (T : List Ru) (ad : Int) (L : List Ie) (la : Int) (B : Nat → Prop) : Prop where
  only : Only (fun b => w.heap.size ≤ b ∧ ¬ X b) W1 z
  le : w.heap.size ≤ W1.heap.size
  xl : ∀ b, X b → b < W1.heap.size
  bB : ∀ b, B b → w.heap.size ≤ b ∧ ¬ X b ∧ b < z.heap.size
  rc : RTab B z g2 L la
  ca : Tbl (fun b => w.heap.size ≤ b ∧ ¬ X b ∧ ¬ B b) z v1 T ad
def Tx (w : World) (X : Nat → Prop) (W1 z : World) (v1 : Value) (g2 : Nat) (T : List Ru) (ad : Int) (L : List Ie) (la : Int) : Prop := ∃ B, Tw w X W1 z v1 g2 T ad L la B
section
variable {w : World} {X : Nat → Prop} {W1 z : World} {v1 : Value} {g2 : Nat} {T : List Ru} {ad : Int} {L : List Ie} {la : Int}
theorem Tx.prog (h : Tx w X W1 z v1 g2 T ad L la) : ∃ S, Fresh S z ∧ Tbl S z v1 T ad ∧ ∀ y T' ad', Only S z y → Tbl S y v1 T' ad' → Tx w X W1 y v1 g2 T' ad' L la := by
  obtain ⟨B, h⟩ := h
  have hs := h.only.size
  refine ⟨fun b => w.heap.size ≤ b ∧ ¬ X b ∧ ¬ B b, fun b hb => ⟨Nat.le_trans (Nat.le_trans h.le hs) hb, fun hx => by have := h.xl b hx; omega, fun hB => by have := (h.bB b hB).2.2; omega⟩, h.ca, fun y q1 q2 hO hC => ⟨B, h.only.trans (hO.mono fun b hb => ⟨hb.1, hb.2.1⟩), h.le, h.xl, fun b hB => ⟨(h.bB b hB).1, (h.bB b hB).2.1, Nat.lt_of_lt_of_le (h.bB b hB).2.2 hO.size⟩, h.rc.carry fun b _ hB => ⟨hB, hO.block b fun e => e.2.2 hB⟩, hC⟩⟩
theorem Tx.doc (h : Tx w X W1 z v1 g2 T ad L la) : ∃ U, Fresh U z ∧ RTab U z g2 L la ∧ ∀ y L' la', Only U z y → RTab U y g2 L' la' → Tx w X W1 y v1 g2 T ad L' la' := by
  obtain ⟨B, h⟩ := h
  have hs := h.only.size
  refine ⟨fun b => B b ∨ z.heap.size ≤ b, fun b hb => Or.inr hb, h.rc.carry fun b _ hB => ⟨Or.inl hB, rfl⟩, fun y q1 q2 hO hC => ⟨fun b => (B b ∨ z.heap.size ≤ b) ∧ b < y.heap.size, ?_, h.le, h.xl, ?_, hC.carry fun b hb hB => ⟨⟨hB, hb⟩, rfl⟩, h.ca.carry fun b hb hS => ⟨⟨hS.1, hS.2.1, fun e => ?_⟩, hO.block b fun e => ?_⟩⟩⟩
  · refine h.only.trans (hO.mono fun b hb => ?_)
    rcases hb with hb | hb
    · exact ⟨(h.bB b hb).1, (h.bB b hb).2.1⟩
    · exact ⟨Nat.le_trans (Nat.le_trans h.le hs) hb, fun hx => by have := h.xl b hx; omega⟩
  · rintro b ⟨hb | hb, hl⟩
    · exact ⟨(h.bB b hb).1, (h.bB b hb).2.1, hl⟩
    · exact ⟨Nat.le_trans (Nat.le_trans h.le hs) hb, fun hx => by have := h.xl b hx; omega, hl⟩
  · rcases e.1 with e | e
    · exact hS.2.2 e
    · omega
  · rcases e with e | e
    · exact hS.2.2 e
    · omega
theorem Tx.on (h : Tx w X W1 z v1 g2 T ad L la) {y : World} (hb : Below z.heap.size z y) : Tx w X W1 y v1 g2 T ad L la := by
  obtain ⟨S, h1, h2, h3⟩ := h.prog
  exact h3 y T ad (Only.of hb h1) (h2.carry fun b hb' hS => ⟨hS, hb.block b hb'⟩)
theorem Tx.start {y1 y2 : World} (h1 : Below w.heap.size w y1) (hC : Tbl (fun b => w.heap.size ≤ b) y1 v1 T ad) (h2 : Below y1.heap.size y1 y2) (hR : RTab (fun b => y1.heap.size ≤ b) y2 g2 L la) : Tx w (fun _ => False) w y2 v1 g2 T ad L la := by
  have hs := h1.size
  refine ⟨fun b => y1.heap.size ≤ b ∧ b < y2.heap.size, ?_, Nat.le_refl _, (fun b h => h.elim), fun b hb => ⟨Nat.le_trans hs hb.1, id, hb.2⟩, hR.carry fun b hb hS => ⟨⟨hS, hb⟩, rfl⟩, hC.carry fun b hb hS => ⟨⟨hS, id, fun e => by omega⟩, h2.block b hb⟩⟩
  exact Only.mono ((Only.of h1 fun b hb => hb).trans (Only.of h2 fun b hb => Nat.le_trans hs hb)) fun b hb => ⟨hb, id⟩
theorem Tx.take {wx : World} (h : Tx w (fun _ => False) w wx v1 g2 T ad L la) (o : Obj) : Tx w (fun b => b = wx.heap.size) (wx.alloc o) (wx.alloc o) v1 g2 T ad L la := by
  obtain ⟨B, h⟩ := h
  have hb : Below wx.heap.size wx (wx.alloc o) := (Below.refl _ _).alloc (Nat.le_refl _) _
  refine ⟨B, Only.refl _ _, Nat.le_trans h.only.size hb.size, fun b e => by rw [e]; simp, fun b hB => ⟨(h.bB b hB).1, fun e => by have := (h.bB b hB).2.2; omega, Nat.lt_of_lt_of_le (h.bB b hB).2.2 hb.size⟩, h.rc.carry fun b hb' hS => ⟨hS, hb.block b hb'⟩, h.ca.carry fun b hb' hS => ⟨⟨hS.1, fun e => by omega, hS.2.2⟩, hb.block b hb'⟩⟩
theorem Tx.back {wx : World} {o : Obj} (h : Tx w (fun b => b = wx.heap.size) (wx.alloc o) z v1 g2 T ad L la) (h0 : Only (fun b => w.heap.size ≤ b ∧ ¬ False) w wx) : Tx w (fun _ => False) w z v1 g2 T ad L la := by
  obtain ⟨B, h⟩ := h
  have hb : Below wx.heap.size wx (wx.alloc o) := (Below.refl _ _).alloc (Nat.le_refl _) _
  refine ⟨B, (h0.trans (Only.of hb fun b hb' => ⟨Nat.le_trans h0.size hb', id⟩)).trans (h.only.mono fun b hb' => ⟨hb'.1, id⟩), Nat.le_refl _, (fun b h => h.elim), fun b hB => ⟨(h.bB b hB).1, id, (h.bB b hB).2.2⟩, h.rc, h.ca.carry fun b _ hS => ⟨⟨hS.1, id, hS.2.2⟩, rfl⟩⟩
theorem Tx.below (h : Tx w (fun _ => False) w z v1 g2 T ad L la) : Only (fun b => w.heap.size ≤ b ∧ ¬ False) w z ∧ Below w.heap.size w z := by
  obtain ⟨B, h⟩ := h
  exact ⟨h.only, h.only.below fun k hk => hk.1⟩
theorem Tx.kept {xb : Nat} (h : Tx w (fun b => b = xb) W1 z v1 g2 T ad L la) : z.heap[xb]? = W1.heap[xb]? := by
  obtain ⟨B, h⟩ := h
  exact h.only.block _ fun e => e.2 rfl
end
theorem Tx.bel {w : World} {X : Nat → Prop} {W1 z : World} {v1 : Value} {g2 : Nat} {T : List Ru} {ad : Int} {L : List Ie} {la : Int} (h : Tx w X W1 z v1 g2 T ad L la) : Below w.heap.size W1 z := by
  obtain ⟨B, h⟩ := h
  exact h.only.below fun k hk => hk.1
/-- A deal. -/
structure De where
  k : Int
  x : RuV
  id : Int
  h : Nat → Int
def dcs (d : De) : Array Value := #[.int .i64 d.k] ++ rvc d.x ++ #[.int .i64 d.id] ++ row 11 d.h
theorem dcs_size (d : De) : (dcs d).size = 38 := by simp [dcs, rvc_size, row_size]
theorem dcs_0 (d : De) : (dcs d)[0]? = some (.int .i64 d.k) := by
  unfold dcs
  rw [Array.append_assoc, Array.append_assoc, Array.getElem?_append_left (by simp)]; rfl
theorem dcs_r (d : De) (i : Nat) (hi : i < 25) : (dcs d)[1 + i]? = (rvc d.x)[i]? := by
  unfold dcs
  rw [Array.append_assoc, Array.append_assoc, Array.getElem?_append_right (by simp), Array.getElem?_append_left (by simp [rvc_size]; omega)]
  rw [show 1 + i - (#[Value.int .i64 d.k] : Array Value).size = i by simp]
theorem dcs_26 (d : De) : (dcs d)[26]? = some (.int .i64 d.id) := by
  unfold dcs
  rw [Array.getElem?_append_left (by simp [rvc_size]), Array.getElem?_append_right (by simp [rvc_size])]
  simp [rvc_size]
theorem dcs_h (d : De) (i : Nat) (hi : i < 11) : (dcs d)[27 + i]? = some (.int .u64 (d.h i)) := by
  unfold dcs
  rw [Array.getElem?_append_right (by simp [rvc_size])]
  rw [show 27 + i - (#[Value.int .i64 d.k] ++ rvc d.x ++ #[Value.int .i64 d.id]).size = i by simp [rvc_size], row_at 11 _ i hi]
theorem dcs_one {d : De} (h : d.x.cp.oneCell' = true) : (dcs d).all (·.oneCell') = true := by
  unfold dcs
  rw [Array.all_append, Array.all_append, Array.all_append, rvc_one h, row_one]; simp [Value.oneCell']
theorem sizeDE (d : De) : (Tryd.prog.info? 38).map (·.size) = some (dcs d).size := by rw [dcs_size]; kernel_rfl
theorem cellsDEAL : Tryd.prog.cellsOf 38 = 38 := by kernel_rfl
def RDe : World → (Nat → Option Value) → De → Prop := fun _ f d => (∀ i, i < 38 → f i = (dcs d)[i]?) ∧ Wf d.x.m ∧ d.x.cp.oneCell' = true ∧ Wf d.h ∧ (Lit.int .i64 d.id).wf = true
section
variable {H : Type} {enc : TypeId × Value → H} {W : World}
theorem opens_deal : Opens enc W 38 38 RDe := fun fuel cs D Pl hf hlt hw => by
  have F := open_fields Tryd.underlying38 hf hlt hw
  obtain ⟨_, _, _, e0, _, _⟩ := F.2 0 _ rfl
  obtain ⟨_, _, _, e1, l1, w1⟩ := F.2 1 _ rfl
  obtain ⟨_, _, _, e2, _, _⟩ := F.2 2 _ rfl
  obtain ⟨_, _, _, e3, _, _⟩ := F.2 3 _ rfl
  obtain ⟨a, a1, a2⟩ := one_int (o := 0) Tryd.underlying3 cells3 e0
  obtain ⟨x, hx⟩ := opens_rule _ _ _ _ e1 l1 w1
  obtain ⟨c, c1, c2⟩ := one_int (o := 26) Tryd.underlying3 cells3 e2
  obtain ⟨h, hcs, _, hwf⟩ := open_arr e3
  obtain ⟨x1, x2, x3⟩ := hx (fun i => if i < 25 then cs[1 + i]? else none) fun i hi => by
    show (if i < 25 then cs[1 + i]? else none) = _
    rw [if_pos hi, Nat.add_comm]
    simp [cellsRULE, hi]
  refine ⟨⟨a, x, c, h⟩, fun f hf' => ⟨fun i hi => ?_, x2, x3, hwf, c2⟩⟩
  rw [hf' i hi]
  by_cases e : i = 0
  · subst e; rw [dcs_0]; exact a1
  · by_cases e' : i < 26
    · obtain ⟨j, rfl⟩ : ∃ j, i = 1 + j := ⟨i - 1, by omega⟩
      have hj : j < 25 := by omega
      rw [dcs_r _ _ hj]
      have := x1 j hj
      simp only [hj, if_true] at this
      exact this
    · by_cases e'' : i = 26
      · subst e''; rw [dcs_26]; exact c1
      · obtain ⟨j, rfl⟩ : ∃ j, i = 27 + j := ⟨i - 27, by omega⟩
        have hj : j < 11 := by omega
        rw [dcs_h _ _ hj]
        have h1 := row_at 11 h j hj
        rw [← hcs] at h1
        rw [Nat.add_comm]
        simpa [List.getElem?_take, List.getElem?_drop, cellsH, hj, Nat.add_comm] using h1
theorem open_deals {v : Value} {d : DataW H} {p : List MemPlace} (h0 : DataW.Trod enc Tryd.prog W 0 (fun _ => true) true 22 v d p) (hlt : ∀ y ∈ p, y.block < W.heap.size) (hw : ∀ n ∈ d.weights Tryd.prog 22, n ≤ reachBytes) (hv : ∃ ao n c, v = .slice ao n c) :
    ∃ l, Lst (fun b => b < W.heap.size) 38 RDe W v l := by
  obtain ⟨fuel, hf⟩ := h0
  obtain ⟨ao, n, c, rfl⟩ := hv
  obtain ⟨v', l, hcs, hl⟩ := open_lst Tryd.underlying22 cellsDEAL (by omega) (by decide +kernel) opens_deal hf hlt hw
  simp only [Value.cells] at hcs
  have : v' = .slice ao n c := by simpa using hcs.symm
  exact ⟨l, this ▸ hl⟩
end
theorem Lst.deal {T : Nat → Prop} {w : World} {v : Value} {l : List De} (h : Lst T 38 RDe w v l) {q : Nat} (hq : q < l.length) : ∃ b o cap, v = .slice (some ⟨b, o, none⟩) l.length cap ∧ T b ∧ b < w.heap.size ∧ w.rangeAt b (o + q * 38) (dcs l[q]).toList ∧ Wf l[q].x.m ∧ l[q].x.cp.oneCell' = true ∧ Wf l[q].h ∧ (Lit.int .i64 l[q].id).wf = true := by
  obtain ⟨ao, cap, h1, h2, h3, h4, h5⟩ := h
  obtain ⟨b, o, hb, rfl, hc⟩ := h5 (fun e => by rw [e] at hq; simp at hq)
  obtain ⟨r1, r2, r3, r4, r5⟩ := hc q hq
  have h0 := r1 0 (by omega)
  rw [dcs_0] at h0
  exact ⟨b, o, cap, h1, hb, cell_lt h0, range_of fun i hi => r1 i (by rw [dcs_size] at hi; exact hi), r2, r3, r4, r5⟩
/-- What a deal's own block holds. -/
structure Hx (b : Nat) (k : Int) (x : RuV) (id : Int) (h : Nat → Int) (w : World) : Prop where
  c0 : w.cell? ⟨b, 0, none⟩ = some (.int .i64 k)
  rr : w.rangeAt b 1 (rvc x).toList
  ci : w.cell? ⟨b, 26, none⟩ = some (.int .i64 id)
  rh : w.rangeAt b 27 (row 11 h).toList
theorem dcs_blk {b : Nat} {d : De} {w : World} (h : w.heap[b]? = some (.cells (dcs d) 38 (0, 0))) : Hx b d.k d.x d.id d.h w :=
  ⟨by rw [cell_of_row _ _ _ _ _ _ h]; exact dcs_0 d, range_of fun i hi => by
    rw [rvc_size] at hi
    rw [cell_of_row _ _ _ _ _ _ h, dcs_r _ _ hi], by rw [cell_of_row _ _ _ _ _ _ h]; exact dcs_26 d, range_of fun i hi => by
    rw [row_size] at hi
    rw [cell_of_row _ _ _ _ _ _ h, dcs_h _ _ hi, row_at 11 _ _ hi]⟩
end Go.Proofs.YtimenbkfkdpdcaaDoor
