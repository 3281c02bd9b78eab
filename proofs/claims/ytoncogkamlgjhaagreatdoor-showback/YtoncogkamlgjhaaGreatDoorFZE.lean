/-
  Proved here: a kid more in the copy of a term (for the law's bare). No condition.
-/
/-
  Laws of our own: a region that draws its order and in the end writes a cell that it has read: what is held till one of its operations comes up. No condition.
-/
/-
  Proved here: the law's bare gives a copy of a term that has words, in new memory. Conditions: at most 4096 terms; the term lies in old memory.
-/
/-
  Proved here: ShowBack's body says true. Conditions: the tables; the policy lies in old memory.
-/
import Derived.Test.YtoncogkamlgjhaaGreatDoorFZB
import Derived.Test.YtoncogkamlgjhaaGreatDoorFB9
namespace Go.Proofs.YtoncogkamlgjhaaGreatDoor
set_option maxRecDepth 100000
open Go.RowKit
set_option maxRecDepth 100000

/-- a copy under way: its block B, the kids that it has -/
structure BrS (w : World) (B op fd n : Nat) (acc : List Tm) (v : Value) (wr : World) : Prop where
  low : Below w.heap.size w wr
  new : w.heap.size ≤ B
  row : wr.heap[B]? = some (.cells (tmc op fd n v) 26 (0, 0))
  ks : ∃ xs, Rw (fun b => w.heap.size ≤ b ∧ b ≠ B) 4 26 wr v acc.length xs ∧ TmL (fun b => w.heap.size ≤ b ∧ b ≠ B ∧ v.ownBlock ≠ some b) wr acc xs
theorem BrS.on {w : World} {B op fd n : Nat} {acc : List Tm} {v : Value} {wr w' : World} (h : BrS w B op fd n acc v wr) (hb : Below wr.heap.size wr w') : BrS w B op fd n acc v w' := by
  obtain ⟨xs, g1, g2⟩ := h.ks
  have hz := h.low.size
  have hB := (Array.getElem?_eq_some_iff.1 h.row).1
  exact ⟨h.low.trans (hb.mono hz), h.new, (hb.block B hB).trans h.row, xs, g1.carry fun b hl hS => ⟨hS, hb.block b hl⟩, TmL.carry (fun b hl hS => ⟨hS, hb.block b hl⟩) _ _ g2⟩
theorem BrS.app {w : World} {B op fd n : Nat} {acc : List Tm} {v v' : Value} {wr w1 w2 w3 : World} {t : Tm} {cs : Array Value} {xs : List Value} (h : BrS w B op fd n acc v wr) (hb1 : Below wr.heap.size wr w1) (ht : TmV (fun b => wr.heap.size ≤ b) w1 t cs) (h2 : w2 = w1.alloc (.cells cs 26)) (hA : Apd w2 v w3)
    (g1 : Rw (fun b => w.heap.size ≤ b ∧ b ≠ B) 4 26 w2 v acc.length xs) (g2 : TmL (fun b => w.heap.size ≤ b ∧ b ≠ B ∧ v.ownBlock ≠ some b) w2 acc xs) (hw : ∀ S, Rw S 4 26 w2 v acc.length xs → Rw (fun b => S b ∨ w2.heap.size ≤ b) 4 26 w3 v' (acc.length + 1) (xs ++ cs.toList)) : BrS w B op fd n (acc ++ [t]) v' (w3.setCell ⟨B, 3, none⟩ v') := by
  have hb2 : Below w1.heap.size w1 w2 := by rw [h2]; exact (Below.refl _ _).alloc (Nat.le_refl _) _
  have hb12 : Below wr.heap.size wr w2 := hb1.trans (hb2.mono hb1.size)
  have hJ := h.on hb12
  have hz := h.low.size
  have hz1 := hb1.size
  have hz2 := hb2.size
  have hBr := (Array.getElem?_eq_some_iff.1 h.row).1
  have hown : ∀ b, v.ownBlock = some b → w.heap.size ≤ b ∧ b ≠ B := fun b hb => g1.own b hb
  have hownlt : ∀ b, v.ownBlock = some b → b < wr.heap.size := fun b hb => by
    obtain ⟨ys, q1, -⟩ := h.ks
    exact q1.ownLt b hb
  have hself := hw (fun b => v.ownBlock = some b) (g1.self.carry fun b _ hS => ⟨hS.2, rfl⟩)
  have hv' : ∀ b, v'.ownBlock = some b → v.ownBlock = some b ∨ w2.heap.size ≤ b := fun b hb => hself.own b hb
  have hne : ∀ b, b < w2.heap.size → v.ownBlock ≠ some b → v'.ownBlock ≠ some b := fun b hb hn e => by
    rcases hv' b e with q | q
    · exact hn q
    · omega
  have hB3 : w3.heap[B]? = some (.cells (tmc op fd n v) 26 (0, 0)) := (hA.block B (by omega) (fun e => (hown B e).2 rfl)).trans hJ.row
  have ho3 : Only (fun b => w.heap.size ≤ b) w2 w3 := hA.only (fun b hb => by show w.heap.size ≤ b; omega) (fun b hb => (hown b hb).1)
  have hl3 : Below w.heap.size w w3 := hJ.low.trans (ho3.below fun k hk => hk)
  have hoth : ∀ k, k ≠ B → (w3.setCell ⟨B, 3, none⟩ v').heap[k]? = w3.heap[k]? := fun k hk => heap_setCell_other w3 ⟨B, 3, none⟩ k v' hk
  refine ⟨hl3.setCell (p := ⟨B, 3, none⟩) h.new v', h.new, ?_, xs ++ cs.toList, ?_, ?_⟩
  · have := heap_setCell_same w3 B 3 (tmc op fd n v) 26 v' hB3
    simpa using this
  · rw [List.length_append]
    exact (hw _ g1).carry fun b _ hS => by
      have hS' : w.heap.size ≤ b ∧ b ≠ B := by
        rcases hS with q | q
        · exact q
        · exact ⟨by omega, by omega⟩
      exact ⟨hS', hoth b hS'.2⟩
  · refine TmL.carry (S := fun b => w.heap.size ≤ b ∧ b ≠ B ∧ v'.ownBlock ≠ some b) (w := w3) (fun b _ hS => ⟨hS, hoth b hS.2.1⟩) _ _ ?_
    refine TmL.snoc (tm_on (w := w1) (S := fun b => wr.heap.size ≤ b) ht fun b hb hS => ?_) _ _ (TmL.carry (fun b hb hS => ⟨⟨hS.1, hS.2.1, hne b hb hS.2.2⟩, hA.block b hb hS.2.2⟩) _ _ g2)
    have hn : v.ownBlock ≠ some b := fun e => by have := hownlt b e; omega
    exact ⟨⟨by omega, by omega, hne b (by omega) hn⟩, (hA.block b (by omega) hn).trans (hb2.block b hb)⟩
end Go.Proofs.YtoncogkamlgjhaaGreatDoor
namespace Go.Proofs.YtoncogkamlgjhaaGreatDoor
set_option maxRecDepth 100000
open Go.RowKit

section
variable {md : Region.Mode} {ops : Array Oper} {Q : Exit → Act → World → Prop} {S T : World → Prop} {z : Nat}
/-- T is held while z has not come up -/
def Til (z : Nat) (T : World → Prop) (listed : Array Bool) (w : World) : Prop := listed.getD z true = true ∨ T w
/-- Whatever order: S behind every operation, T till z has come up. -/
def wpK (md : Region.Mode) (ops : Array Oper) (Q : Exit → Act → World → Prop) (S T : World → Prop) (z : Nat) : Nat → Array Bool → Act → World → Prop
  | 0, listed, a, w => Region.ready md ops listed = [] ∧ Q .normal a w
  | fuel + 1, listed, a, w => (Region.ready md ops listed = [] → Q .normal a w) ∧ ∀ i ∈ Region.ready md ops listed, wpOp Tryz.prog ops Q i (fun a' w' => (S w' ∧ Til z T (listed.setIfInBounds i true) w') ∧ wpK md ops Q S T z fuel (listed.setIfInBounds i true) a' w') a w
theorem wpK_any : ∀ (fuel : Nat) (listed : Array Bool) (a : Act) (w : World), wpK md ops Q S T z fuel listed a w → wpAnyH Tryz.prog md ops Q (fun _ => True) fuel listed a w
  | 0, _, _, _, h => h
  | fuel + 1, _, _, _, h => ⟨h.1, fun i hi => wpOp_mono (fun a' w' h' => ⟨trivial, wpK_any fuel _ a' w' h'.2⟩) (h.2 i hi)⟩
theorem getD_up {l : Array Bool} {i z : Nat} (h : l.getD z true = true) : (l.setIfInBounds i true).getD z true = true := by
  by_cases e : i = z
  · subst e
    by_cases hl : i < l.size
    · simp [Array.getD, hl]
    · simp [Array.getD, hl]
  · rw [getD_set_ne true e]; exact h
theorem Til.up {l : Array Bool} {w : World} (i : Nat) (h : Til z T l w) : Til z T (l.setIfInBounds i true) w := h.imp getD_up id
theorem wpK_first {U : World → Prop} {I : Array Bool → Prop} {i : Nat} {oi : Oper} {v : Value} (hi : ops[i]? = some oi) (hsel : ∀ (j : Nat) (o : Oper) cs b, ops[j]? = some o → o.op ≠ .select cs b)
    (hQ : ∀ c a w, Q (.panic c) (a.put oi.dst v) w → Q (.panic c) a w)
    (hiz : i ≠ z) (hU : ∀ l w, I l → S w → Til z T l w → U w) (hI : ∀ l j, I l → j ∈ Region.ready md ops l → l.getD i true = false → I (l.setIfInBounds j true)) :
    ∀ (fuel : Nat) (listed : Array Bool) (a : Act) (w : World),
      (∀ j oj, ops[j]? = some oj → j ≠ i → listed.getD j true = false → (∀ e ∈ oj.after, Region.binds md e = true → e.on ≠ i) → oi.apart ops oj = true) →
      i ∈ Region.ready md ops listed → I listed → YieldsIf Tryz.prog ops U oi v a → S w → Til z T listed w →
      wpK md ops Q S T z fuel (listed.setIfInBounds i true) (a.put oi.dst v) w → wpK md ops Q S T z (fuel + 1) listed a w := by
  intro fuel
  induction fuel with
  | zero =>
    intro listed a w _ hr hl hy hS hT H
    refine ⟨fun h => (by rw [h] at hr; cases hr), fun j hj => ?_⟩
    by_cases hji : j = i
    · subst hji; exact hy.wpOp hi (hU _ _ hl hS hT) ⟨⟨hS, hT.up _⟩, H⟩
    · have := ready_mono hj hji
      rw [H.1] at this
      cases this
  | succ fuel ih =>
    intro listed a w hfree hr hl hy hS hT H
    refine ⟨fun h => (by rw [h] at hr; cases hr), fun j hj => ?_⟩
    by_cases hji : j = i
    · subst hji; exact hy.wpOp hi (hU _ _ hl hS hT) ⟨⟨hS, hT.up _⟩, H⟩
    have hi0 := (mem_ready.1 hr).1
    have h1 := H.2 j (ready_mono hj hji)
    obtain ⟨hjun, oj, hoj, hall⟩ := mem_ready.1 hj
    have hnot : ∀ e ∈ oj.after, Region.binds md e = true → e.on ≠ i := fun e he hb heq => by
      have h1 := hall e he hb
      rw [heq] at h1
      rcases Nat.lt_or_ge i listed.size with h' | h'
      · simp [h'] at hi0 h1; rw [hi0] at h1; cases h1
      · simp [Array.getElem?_eq_none h'] at h1
    have h2 := wpOp_putIf hoj (hfree j oj hoj hji hjun hnot) (fun cs b => hsel i oi cs b hi) (fun cs b => hsel j oj cs b hoj) hQ hy h1
    have hfree' : ∀ k ok, ops[k]? = some ok → k ≠ i → (listed.setIfInBounds j true).getD k true = false → (∀ e ∈ ok.after, Region.binds md e = true → e.on ≠ i) → oi.apart ops ok = true := fun k ok hk hki hun hno => by
      refine hfree k ok hk hki ?_ hno
      by_cases hjk : j = k
      · subst hjk; exact hjun
      · rw [getD_set_ne true hjk] at hun; exact hun
    have hback : ∀ w', Til z T ((listed.setIfInBounds i true).setIfInBounds j true) w' → Til z T (listed.setIfInBounds j true) w' := fun w' h => by
      rcases h with h | h
      · rw [Array.setIfInBounds_comm _ _ (Ne.symm hji), getD_set_ne true hiz] at h
        exact Or.inl h
      · exact Or.inr h
    refine wpOp_mono (fun a' w' h3 => ?_) h2
    have hT' : Til z T (listed.setIfInBounds j true) w' := hback w' h3.2.1.2
    refine ⟨⟨h3.2.1.1, hT'⟩, ih (listed.setIfInBounds j true) a' w' hfree' (ready_mono hr (Ne.symm hji)) (hI _ _ hl hj hi0) h3.1 h3.2.1.1 hT' ?_⟩
    rw [Array.setIfInBounds_comm _ _ hji]
    exact h3.2.2
/-- z waits for i -/
def waitsFor (md : Region.Mode) (ops : Array Oper) (z i : Nat) : Bool := match ops[z]? with | some o => o.after.any fun e => Region.binds md e && (e.on == i) | none => false
variable {fuel : Nat} {listed : Array Bool} {a : Act} {w : World} {i : Nat} {oi : Oper} {v : Value}
theorem wpK_takeS (hi : ops[i]? = some oi) (hs : Region.noSelect ops = true) (hf : Region.free md ops listed i = true) (hr : (Region.ready md ops listed).contains i = true) (hiz : i ≠ z)
    (hQ : ∀ c a w, Q (.panic c) (a.put oi.dst v) w → Q (.panic c) a w) (hy : YieldsIf Tryz.prog ops S oi v a) (hS : S w ∧ Til z T listed w)
    (h : wpK md ops Q S T z fuel (listed.setIfInBounds i true) (a.put oi.dst v) w) : wpK md ops Q S T z (fuel + 1) listed a w :=
  wpK_first (I := fun _ => True) (U := S) hi (Region.noSelect_spec hs) hQ hiz (fun _ _ _ h _ => h) (fun _ _ _ _ _ => trivial) fuel listed a w (Region.free_spec hi hf) (by simpa using hr) trivial hy hS.1 hS.2 h
theorem wpK_takeT (hi : ops[i]? = some oi) (hs : Region.noSelect ops = true) (hf : Region.free md ops listed i = true) (hr : (Region.ready md ops listed).contains i = true) (hiz : i ≠ z) (hw : waitsFor md ops z i = true) (hz : listed.getD z true = false)
    (hQ : ∀ c a w, Q (.panic c) (a.put oi.dst v) w → Q (.panic c) a w) (hy : YieldsIf Tryz.prog ops (fun w => S w ∧ T w) oi v a) (hS : S w ∧ Til z T listed w)
    (h : wpK md ops Q S T z fuel (listed.setIfInBounds i true) (a.put oi.dst v) w) : wpK md ops Q S T z (fuel + 1) listed a w := by
  refine wpK_first (I := fun l => l.getD z true = false) (U := fun w => S w ∧ T w) hi (Region.noSelect_spec hs) hQ hiz (fun l w' hl h1 h2 => ⟨h1, h2.resolve_left (by rw [hl]; decide)⟩) (fun l j hl hj hil => ?_) fuel listed a w (Region.free_spec hi hf) (by simpa using hr) hz hy hS.1 hS.2 h
  by_cases hjz : j = z
  · subst hjz
    obtain ⟨-, o, ho, hall⟩ := mem_ready.1 hj
    unfold waitsFor at hw
    rw [ho] at hw
    simp only [Array.any_eq_true', Bool.and_eq_true, beq_iff_eq] at hw
    obtain ⟨e, he, hb, hon⟩ := hw
    have h1 := hall e he hb
    rw [hon] at h1
    rcases Nat.lt_or_ge i l.size with h' | h'
    · simp [h'] at hil h1; rw [hil] at h1; cases h1
    · simp [Array.getElem?_eq_none h'] at h1
  · rw [getD_set_ne true hjz]; exact hl
theorem kn1 (i : Nat) (o : Oper) (hr : Region.ready md ops listed = [i]) (ho : ops[i]? = some o) (h : Sp ops Q o a w fun a' w' => (S w' ∧ Til z T (listed.setIfInBounds i true) w') ∧ wpK md ops Q S T z fuel (listed.setIfInBounds i true) a' w') : wpK md ops Q S T z (fuel + 1) listed a w := by
  refine ⟨fun h0 => (by rw [hr] at h0; cases h0), ?_⟩
  rw [hr]
  intro j hj
  obtain rfl : j = i := by simpa using hj
  unfold wpOp
  rw [ho]
  show if Region.wanted o (yielded ops a.tmps) = true then _ else _
  rw [if_pos h.want]
  exact Or.inl h.wp
theorem wpK_done (hr : Region.ready md ops listed = []) (h : Q .normal a w) : ∀ fuel, wpK md ops Q S T z fuel listed a w
  | 0 => ⟨hr, h⟩
  | _ + 1 => ⟨fun _ => h, by rw [hr]; simp⟩
theorem wpK_begin {id : Nat} (S T : World → Prop) (z : Nat) (hm : Tryz.prog.follows .mixedOrders = true) (hS : S w.drew) (hT : T w.drew)
    (h : S w.drew ∧ Til z T (Array.replicate ops.size false) w.drew → wpK .any ops Q S T z ops.size (Array.replicate ops.size false) a w.drew) : (Code.region id ops true).wp Tryz.prog Q a w :=
  wp_region_held hm (wpK_any _ _ _ _ (h ⟨hS, Or.inr hT⟩))
end
end Go.Proofs.YtoncogkamlgjhaaGreatDoor
namespace Go.Proofs.YtoncogkamlgjhaaGreatDoor
set_option maxRecDepth 100000
open Go.RowKit
set_option maxRecDepth 100000

section
variable {ops : Array Oper} {Q : Exit → Act → World → Prop} {o : Oper} {a : Act} {w : World} {K : Act → World → Prop}
theorem Sp.st8 (x y : Operand) (hop : o.op = .store 22 x y) (hg : o.guard = none) (b j : Nat) (n : Int) (u : Value) (hx : a.eval x = .pointer (some ⟨b, j, none⟩)) (hy : a.eval y = .int .i8 n) (hc : w.cell? ⟨b, j, none⟩ = some u) (hz : w.frozen? ⟨b, j, none⟩ = false) (hk : K (a.put o.dst undef) (w.setCell ⟨b, j, none⟩ (.int .i8 n))) : Sp ops Q o a w K := by
  refine ⟨by simp [Region.wanted, hg], ?_⟩
  unfold Oper.wp execOp
  simp only [hop, hx, hy]
  go_simp
  exact hk
theorem Sp.st64 (x y : Operand) (hop : o.op = .store 23 x y) (hg : o.guard = none) (b j : Nat) (n : Int) (u : Value) (hx : a.eval x = .pointer (some ⟨b, j, none⟩)) (hy : a.eval y = .int .u64 n) (hc : w.cell? ⟨b, j, none⟩ = some u) (hz : w.frozen? ⟨b, j, none⟩ = false) (hk : K (a.put o.dst undef) (w.setCell ⟨b, j, none⟩ (.int .u64 n))) : Sp ops Q o a w K := by
  refine ⟨by simp [Region.wanted, hg], ?_⟩
  unfold Oper.wp execOp
  simp only [hop, hx, hy]
  go_simp
  exact hk
theorem Sp.stt (x y : Operand) (hop : o.op = .store 24 x y) (hg : o.guard = none) (b j : Nat) (ao : Option Addr) (n c : Nat) (u : Value) (hx : a.eval x = .pointer (some ⟨b, j, none⟩)) (hy : a.eval y = .slice ao n c) (hc : w.cell? ⟨b, j, none⟩ = some u) (hz : w.frozen? ⟨b, j, none⟩ = false) (hk : K (a.put o.dst undef) (w.setCell ⟨b, j, none⟩ (.slice ao n c))) : Sp ops Q o a w K := by
  refine ⟨by simp [Region.wanted, hg], ?_⟩
  unfold Oper.wp execOp
  simp only [hop, hx, hy]
  go_simp
  exact hk
end
/-- what the two assignments read -/
structure Ba12 (A : Nat) (f n : Int) (W : World) : Prop where
  c1 : W.cell? ⟨A, 1, none⟩ = some (.int .i8 f)
  c2 : W.cell? ⟨A, 2, none⟩ = some (.int .u64 n)
structure Bk3 (K : Nat) (ds : Array Value) (W : World) : Prop where
  rk : W.rangeAt K 0 ds.toList
structure Bc3 (B : Nat) (v : Value) (W : World) : Prop where
  c3 : W.cell? ⟨B, 3, none⟩ = some v
theorem row_frozen {W : World} {b t j : Nat} {cs : Array Value} (h : W.heap[b]? = some (.cells cs t (0, 0))) : W.frozen? ⟨b, j, none⟩ = false := by simp [World.frozen?, h]
/-- fields that count alone are as they were -/
theorem okT_bare {b : Bool} {op fd n : Nat} {ks : List Tm} (h : okT b (.mk op fd n ks) = true) : ((op = 2 ∨ op = 7) ∨ (fd = 0 ∧ n = 0)) ∧ ∀ t ∈ ks, ∃ b', okT b' t = true := by
  rw [okT_mk, Bool.and_eq_true, Bool.and_eq_true] at h
  refine ⟨?_, ?_⟩
  · have h2 := h.1.2
    unfold whlB at h2
    simp only [Bool.and_eq_true] at h2
    have h4 := h2.2
    split at h4
    · rename_i h5; exact Or.inl (by omega)
    · simp at h4; exact Or.inr (by omega)
  · have h3 := h.2
    intro t ht
    have h6 : okIs (decide (op ≤ 6)) (tis ks) = true := by rw [oks_ti]; exact h3
    rw [okIs_iff] at h6
    have h7 : ∀ (ks : List Tm), t ∈ ks → ti t ∈ tis ks := fun ks => by
      induction ks with
      | nil => intro h; cases h
      | cons a ks ih =>
        intro h
        rw [tis]
        rcases List.mem_cons.1 h with rfl | h
        · exact List.mem_cons_self ..
        · exact List.mem_cons_of_mem _ (ih h)
    exact ⟨_, (ok_ti _ t).symm.trans (h6 _ (h7 ks ht))⟩
theorem UmL.rng {S : Nat → Prop} {w : World} {ks : List Tm} {ao : Option Addr} {cap : Nat} {xs : List Value} (h : Rx S 4 w (.slice ao ks.length cap) ks.length xs) (hl : UmL S w ks xs) {j : Nat} (hj : j < ks.length) : ∃ g o, ao = some ⟨g, o, none⟩ ∧ ks.length ≤ cap ∧ S g ∧ g < w.heap.size ∧ ∃ ds, UmV S w ks[j] ds ∧ w.rangeAt g (o + j * 4) ds.toList := by
  obtain ⟨g, o, e, hc, hS, hg, hr⟩ := h.at hj
  obtain ⟨ds, h4, h5⟩ := TiL.at (tis ks) xs j (by rw [tis_len]; exact hj) hl
  rw [tis_at ks j hj] at h4
  refine ⟨g, o, e, hc, hS, hg, ds, h4, hr _ fun i hi => ?_⟩
  have hi4 : i < 4 := by have := h4.size; simp at hi; omega
  rw [h5 i hi4]
  simp
/-- a copy, begun -/
theorem BrS.beg {w wr : World} {B op fd n : Nat} (hl : Below w.heap.size w wr) (hB : w.heap.size ≤ B) (hr : wr.heap[B]? = some (.cells (tmc op fd n nilS) 26 (0, 0))) : BrS w B op fd n [] nilS wr :=
  ⟨hl, hB, hr, [], ⟨rfl, Or.inl ⟨rfl, rfl⟩⟩, by rw [TmL]⟩
theorem BrS.end {w wr : World} {B op fd n : Nat} {ks : List Tm} {v : Value} (h : BrS w B op fd n ks v wr) : TmV (fun b => w.heap.size ≤ b) wr (.mk op fd n ks) (tmc op fd n v) := by
  obtain ⟨xs, g1, g2⟩ := h.ks
  exact TmV.of (g1.carry fun b _ hS => ⟨hS.1, rfl⟩) (TmL.carry (fun b _ hS => ⟨hS.1, rfl⟩) _ _ g2)
set_option maxHeartbeats 12800000 in
theorem bare_step (N : Nat) (HIH : Hid (∀ (t : Tm) (cs : Array Value) (w : World), sz t ≤ N → N ≤ 4096 → (∃ b, okT b t = true) → UmV (fun b => b < w.heap.size) w t cs → Calls Tryz.prog 7 #[.agg cs] w fun e w' => ∃ ds, e = .returned (.agg ds) ∧ Below w.heap.size w w' ∧ TmV (fun b => w.heap.size ≤ b) w' t ds)) : ∀ (t : Tm) (cs : Array Value) (w : World), sz t ≤ N + 1 → N + 1 ≤ 4096 → (∃ b, okT b t = true) → UmV (fun b => b < w.heap.size) w t cs → Calls Tryz.prog 7 #[.agg cs] w fun e w' => ∃ ds, e = .returned (.agg ds) ∧ Below w.heap.size w w' ∧ TmV (fun b => w.heap.size ≤ b) w' t ds := by
    rintro ⟨op, fd, n, ks⟩ cs w hN hsm hok h1
    obtain ⟨b, hok⟩ := hok
    obtain ⟨hbr, hkk⟩ := okT_bare hok
    obtain ⟨v, xs, rfl, ha1, ha2⟩ := h1.get
    obtain ⟨ao, ca, rfl⟩ := ha1.form
    rw [sz] at hN
    have hkl : ks.length ≤ 4096 := by have := len_szs ks ks.length (Nat.le_refl _); rw [List.take_length] at this; omega
    obtain ⟨W0, hW0⟩ : ∃ W0, W0 = (w.alloc (.cells (tmc op fd n (.slice ao ks.length ca)) 26)).alloc (.cells (tmc 0 0 0 nilS) 26) := ⟨_, rfl⟩
    have hb0 : Below w.heap.size w W0 := by rw [hW0]; exact ((Below.refl _ _).alloc (Nat.le_refl _) _).alloc (by simp) _
    have hz0 : W0.heap.size = w.heap.size + 1 + 1 := by rw [hW0]; simp
    have hA0 : W0.heap[w.heap.size]? = some (.cells (tmc op fd n (.slice ao ks.length ca)) 26 (0, 0)) := by rw [hW0]; exact heap_alloc2_old _ _ _
    have hR0 : W0.heap[w.heap.size + 1]? = some (.cells (tmc 0 0 0 nilS) 26 (0, 0)) := by rw [hW0]; exact heap_alloc2_new _ _ _
    obtain ⟨W1, hW1⟩ : ∃ W1, W1 = W0.alloc (.cells (tmc op 0 0 nilS) 26) := ⟨_, rfl⟩
    have hb1 : Below W0.heap.size W0 W1 := by rw [hW1]; exact (Below.refl _ _).alloc (Nat.le_refl _) _
    have hB1 : W1.heap[w.heap.size + 1 + 1]? = some (.cells (tmc op 0 0 nilS) 26 (0, 0)) := by rw [hW1, ← hz0]; exact heap_alloc_new _ _
    have HE : Hid (((w.alloc (.cells #[.int .i8 ((op : Nat) : Int), .int .i8 ((fd : Nat) : Int), .int .u64 ((n : Nat) : Int), .slice ao ks.length ca] 26)).alloc (.cells #[.int .i8 0, .int .i8 0, .int .u64 0, .slice none 0 0] 26)).alloc (.cells #[.int .i8 ((op : Nat) : Int), .int .i8 0, .int .u64 0, .slice none 0 0] 26) = W1) := by show _ = _; rw [hW1, hW0]; rfl
    have c0 : ((w.alloc (.cells #[.int .i8 ((op : Nat) : Int), .int .i8 ((fd : Nat) : Int), .int .u64 ((n : Nat) : Int), .slice ao ks.length ca] 26)).alloc (.cells #[.int .i8 0, .int .i8 0, .int .u64 0, .slice none 0 0] 26)).cell? ⟨w.heap.size, 0, none⟩ = some (.int .i8 ((op : Nat) : Int)) := (four_cells (heap_alloc2_old _ _ _)).1
    have hbt := fun W => run_bt0 ((op : Nat) : Int) W
    have hA1 : W1.heap[w.heap.size]? = some (.cells (tmc op fd n (.slice ao ks.length ca)) 26 (0, 0)) := (hb1.block _ (by omega)).trans hA0
    have HK := hid (And.intro ha1 ha2)
    have HB0 := hid hb0
    have HB1 := hid hb1
    have HA0 := hid hA0
    have HR0 := hid hR0
    have HA1 := hid hA1
    have HBB := hid hB1
    have HKK := hid hkk
    have ha0 := (four_cells hA1).1
    clear h1 ha1 ha2 hW0 hW1 hb0 hb1 hA0 hA1 hR0 hB1 hkk hok
    go_enter Tryz.func7, Tryz.ntmps7
    go_upto_region 2 with (refine stNew 26 (.tmp 3) (.tmp 8) rfl rfl ((w.alloc (.cells #[.int .i8 ((op : Nat) : Int), .int .i8 ((fd : Nat) : Int), .int .u64 ((n : Nat) : Int), .slice ao ks.length ca] 26)).alloc (.cells #[.int .i8 0, .int .i8 0, .int .u64 0, .slice none 0 0] 26)) 26 (tmc 0 0 0 nilS) (tmc op 0 0 nilS) rfl rfl rfl rfl rfl rfl ?_)
    rw [show ((w.alloc (.cells #[.int .i8 ((op : Nat) : Int), .int .i8 ((fd : Nat) : Int), .int .u64 ((n : Nat) : Int), .slice ao ks.length ca] 26)).alloc (.cells #[.int .i8 0, .int .i8 0, .int .u64 0, .slice none 0 0] 26)).alloc (.cells #[.int .i8 ((op : Nat) : Int), .int .i8 0, .int .u64 0, .slice none 0 0] 26) = W1 from HE.out]
    clear HE c0 hbt
    go_cut [16] from 6 (fun s16 wx => s16 = .bool (decide (op = 2 ∨ op = 7)) ∧ wx = W1)
    case first =>
      by_cases e1 : op = 2
      · have e1' : decide (((op : Nat) : Int) = 2) = true := by simp; omega
        go_wp2_with fail
        go_meet
        case rel => exact ⟨by rw [decide_eq_true (Or.inl e1)], rfl⟩
      · have e1' : decide (((op : Nat) : Int) = 2) = false := by simp; omega
        have e2' : decide (((op : Nat) : Int) = 7) = decide (op = 2 ∨ op = 7) := decide_eq_decide.2 (by omega)
        go_wp2_with fail
        go_meet
        case rel => exact ⟨by rw [Value.bool.injEq, Bool.eq_iff_iff]; simp; omega, rfl⟩
    case rest =>
    obtain ⟨rfl, hwc⟩ := hcut
    rw [hwc]
    clear hwc wc
    go_upto_if 16 with fail
    go_cut [] from 6 (fun wc => Hid (BrS W0 (w.heap.size + 1 + 1) op fd n [] nilS wc))
    case first =>
      by_cases hop : op = 2 ∨ op = 7
      · have e0 : decide (op = 2 ∨ op = 7) = true := decide_eq_true hop
        have HR : Hid (Ba12 w.heap.size fd n W1.drew) := ⟨(four_cells HA1.out).2.1, (four_cells HA1.out).2.2.1⟩
        have HBd : Hid (W1.drew.heap[w.heap.size + 1 + 1]? = some (.cells (tmc op 0 0 nilS) 26 (0, 0))) := HBB.out
        have HLd : Hid (Below W0.heap.size W0 W1.drew) := HB1.out.trans (bel_drew (Below.refl _ _))
        go_upto_region 3 with fail
        refine wp_region_held_drew (S := Ba12 w.heap.size fd n) (by kernel_rfl) HR.out (fun hHeld => ?_)
        refine wpAnyH_take (i := 0) (v := ?_) rfl (by kernel_rfl) (by kernel_rfl) (by kernel_rfl) (fun _ _ _ h => h) (Or.inl ⟨by rfl, ?_⟩) hHeld ?_
        rotate_left
        · intro w' hSw
          have c1 := hSw.c1
          have c2 := hSw.c2
          clear hSw
          go_simp
          first | done | with_reducible rfl
        simp only [Act.put, List.getElem_toArray, List.getElem_cons_zero, List.setIfInBounds_toArray, List.set_cons_zero, List.set_cons_succ]
        refine wpAnyH_take (i := 1) (v := ?_) rfl (by kernel_rfl) (by kernel_rfl) (by kernel_rfl) (fun _ _ _ h => h) (Or.inl ⟨by rfl, ?_⟩) hHeld ?_
        rotate_left
        · intro w' hSw
          have c1 := hSw.c1
          have c2 := hSw.c2
          clear hSw
          go_simp
          first | done | with_reducible rfl
        simp only [Act.put, List.getElem_toArray, List.getElem_cons_succ, List.getElem_cons_zero, List.setIfInBounds_toArray, List.set_cons_zero, List.set_cons_succ]
        refine wpAnyH_take (i := 2) (v := ?_) rfl (by kernel_rfl) (by kernel_rfl) (by kernel_rfl) (fun _ _ _ h => h) (Or.inl ⟨by rfl, ?_⟩) hHeld ?_
        rotate_left
        · intro w' hSw
          have c1 := hSw.c1
          have c2 := hSw.c2
          clear hSw
          go_simp
          first | done | with_reducible rfl
        simp only [Act.put, List.getElem_toArray, List.getElem_cons_succ, List.getElem_cons_zero, List.setIfInBounds_toArray, List.set_cons_zero, List.set_cons_succ]
        refine wpAnyH_take (i := 3) (v := ?_) rfl (by kernel_rfl) (by kernel_rfl) (by kernel_rfl) (fun _ _ _ h => h) (Or.inl ⟨by rfl, ?_⟩) hHeld ?_
        rotate_left
        · intro w' hSw
          have c1 := hSw.c1
          have c2 := hSw.c2
          clear hSw
          go_simp
          first | done | with_reducible rfl
        simp only [Act.put, List.getElem_toArray, List.getElem_cons_succ, List.getElem_cons_zero, List.setIfInBounds_toArray, List.set_cons_zero, List.set_cons_succ]
        refine wpAnyH_take (i := 4) (v := ?_) rfl (by kernel_rfl) (by kernel_rfl) (by kernel_rfl) (fun _ _ _ h => h) (Or.inl ⟨by rfl, ?_⟩) hHeld ?_
        rotate_left
        · intro w' hSw
          have c1 := hSw.c1
          have c2 := hSw.c2
          clear hSw
          go_simp
          first | done | with_reducible rfl
        simp only [Act.put, List.getElem_toArray, List.getElem_cons_succ, List.getElem_cons_zero, List.setIfInBounds_toArray, List.set_cons_zero, List.set_cons_succ]
        generalize W1.drew = W2 at HR HBd HLd hHeld ⊢
        have hE1 : (W2.setCell ⟨w.heap.size + 1 + 1, 1, none⟩ (.int .i8 ((fd : Nat) : Int))).heap[w.heap.size + 1 + 1]? = some (.cells (tmc op fd 0 nilS) 26 (0, 0)) := by
          exact heap_setCell_same W2 (w.heap.size + 1 + 1) 1 _ _ (.int .i8 ((fd : Nat) : Int)) HBd.out
        have hE12 : ((W2.setCell ⟨w.heap.size + 1 + 1, 1, none⟩ (.int .i8 ((fd : Nat) : Int))).setCell ⟨w.heap.size + 1 + 1, 2, none⟩ (.int .u64 ((n : Nat) : Int))).heap[w.heap.size + 1 + 1]? = some (.cells (tmc op fd n nilS) 26 (0, 0)) := by
          exact heap_setCell_same _ (w.heap.size + 1 + 1) 2 _ _ (.int .u64 ((n : Nat) : Int)) hE1
        have hoth : ∀ (W : World) (j : Nat) (u : Value) (b : Nat), b < w.heap.size + 1 + 1 → (W.setCell ⟨w.heap.size + 1 + 1, j, none⟩ u).heap[b]? = W.heap[b]? := fun W j u b hb => heap_setCell_other W ⟨w.heap.size + 1 + 1, j, none⟩ b u (by show b ≠ w.heap.size + 1 + 1; omega)
        have hba : ∀ (W : World) (j : Nat) (u : Value), Ba12 w.heap.size fd n W → Ba12 w.heap.size fd n (W.setCell ⟨w.heap.size + 1 + 1, j, none⟩ u) := fun W j u h => ⟨(cell_same (hoth W j u _ (by omega))).trans h.c1, (cell_same (hoth W j u _ (by omega))).trans h.c2⟩
        have HBA := hid hba
        have HOT := hid hoth
        have HE1 := hid hE1
        have HE12 := hid hE12
        clear hba hoth hE1 hE12
        refine an1 5 _ (by kernel_rfl) rfl (Sp.st8 (.tmp 21) (.tmp 18) rfl rfl (w.heap.size + 1 + 1) 1 _ _ rfl rfl (four_cells HBd.out).2.1 (row_frozen HBd.out) ?_)
        refine ⟨HBA.out _ _ _ hHeld, ?_⟩
        simp only [Act.put, List.getElem_toArray, List.getElem_cons_succ, List.getElem_cons_zero]
        have hHeld := HBA.out W2 1 (.int .i8 ((fd : Nat) : Int)) hHeld
        refine wpAnyH_take (i := 6) (v := ?_) rfl (by kernel_rfl) (by kernel_rfl) (by kernel_rfl) (fun _ _ _ h => h) (Or.inl ⟨by rfl, ?_⟩) hHeld ?_
        rotate_left
        · intro w' hSw
          clear hSw
          go_simp
          first | done | with_reducible rfl
        simp only [Act.put, List.getElem_toArray, List.getElem_cons_succ, List.getElem_cons_zero, List.setIfInBounds_toArray, List.set_cons_zero, List.set_cons_succ]
        refine an1 7 _ (by kernel_rfl) rfl (Sp.st64 (.tmp 22) (.tmp 20) rfl rfl (w.heap.size + 1 + 1) 2 _ _ rfl rfl (four_cells HE1.out).2.2.1 (row_frozen HE1.out) ?_)
        refine ⟨HBA.out _ _ _ hHeld, ?_⟩
        simp only [Act.put, List.getElem_toArray, List.getElem_cons_succ, List.getElem_cons_zero]
        refine wpAnyH_done (by kernel_rfl) ?_ _
        go_wp2
        go_meet
        case rel => exact BrS.beg ((HLd.out.setCell (p := ⟨w.heap.size + 1 + 1, 1, none⟩) (by show W0.heap.size ≤ w.heap.size + 1 + 1; omega) _).setCell (p := ⟨w.heap.size + 1 + 1, 2, none⟩) (by show W0.heap.size ≤ w.heap.size + 1 + 1; omega) _) (by omega) HE12.out
      · have e0 : decide (op = 2 ∨ op = 7) = false := decide_eq_false hop
        go_wp2_with fail
        go_meet
        case rel =>
          obtain ⟨rfl, rfl⟩ := hbr.resolve_left hop
          exact BrS.beg HB1.out (by omega) HBB.out
    case rest =>
      have HS0 := hcut
      have a3 : wc.cell? ⟨w.heap.size, 3, none⟩ = some (.slice ao ks.length ca) := (four_cells ((HS0.out.low.block _ (by omega)).trans HA0.out)).2.2.2
      clear hcut HA1 HBB HB1 ha0 HA0
      go_upto_region 5 with fail
      clear a3
      go_loopw [26] (fun v wr => ∃ (j : Nat) (vo : Option Addr) (vc : Nat), v = .int .i64 ((j : Nat) : Int) ∧ j ≤ ks.length ∧ Hid (BrS W0 (w.heap.size + 1 + 1) op fd n (ks.take j) (.slice vo j vc) wr)) (fun v _ => ks.length - (intOf v).toNat)
      case atStart => exact ⟨0, none, 0, rfl, Nat.zero_le _, by rw [List.take_zero]; exact HS0⟩
      case round =>
        clear HS0
        obtain ⟨j, vo, vc, rfl, hj1, HS⟩ := hrel
        by_cases hj : j < ks.length
        · have hs3 : decide ((j : Int) < (ks.length : Int)) = true := by simp; omega
          have hw3 : IntKind.i64.wrap ((j : Int) + 1) = (j : Int) + 1 := by rw [IntKind.wrap_i64]; omega
          obtain ⟨g, o, e1, hc0, hgw, hg, es, ht, hra⟩ := UmL.rng HK.out.1 HK.out.2 hj
          subst e1
          have hjc : j < ca := by omega
          have hz := HS.out.low.size
          have hlow : Below w.heap.size w wr := HB0.out.trans (HS.out.low.mono (by omega))
          have HRA : Hid (wr.rangeAt g (o + j * 4) es.toList) := fun i v hi => (cell_same (hlow.block _ hg)).trans (hra i v hi)
          have HT1 := hid ht.info
          have HO1 := hid ht.one
          have hes := ht.size
          have hb3 : Below wr.heap.size wr (wr.alloc (.cells es 26)) := (Below.refl _ _).alloc (Nat.le_refl _) _
          have HTw := hid (um_on ht fun b hb hS => (⟨by show b < (wr.alloc (.cells es 26)).drew.heap.size; have := hb3.size; have := hlow.size; show b < (wr.alloc (.cells es 26)).heap.size; omega, (hb3.block b (by have := hlow.size; omega)).trans (hlow.block b hb)⟩ : b < (wr.alloc (.cells es 26)).drew.heap.size ∧ (wr.alloc (.cells es 26)).drew.heap[b]? = w.heap[b]?))
          have HC := hid (HIH.out ks[j] es (wr.alloc (.cells es 26)).drew (by have := szs_mem (List.getElem_mem hj); omega) (by omega) (HKK.out _ (List.getElem_mem hj)) HTw.out)
          have HSd := hid ((HS.out.on hb3).on (bel_drew (Below.refl _ _)))
          have hblk : (wr.alloc (.cells es 26)).drew.heap[wr.heap.size]? = some (.cells es 26 (0, 0)) := heap_alloc_new _ _
          have hzd : (wr.alloc (.cells es 26)).drew.heap.size = wr.heap.size + 1 := by show (wr.alloc (.cells es 26)).heap.size = _; simp
          have HRk : Hid (Bk3 wr.heap.size es (wr.alloc (.cells es 26)).drew) := ⟨row4_rng hblk⟩
          have HRc : Hid (Bc3 (w.heap.size + 1 + 1) (.slice vo j vc) (wr.alloc (.cells es 26)).drew) := ⟨(four_cells HSd.out.row).2.2.2⟩
          clear hra ht HTw hlow hblk hb3
          go_upto_region 7 with (first
            | (refine ldMid 26 (.tmp 28) rfl rfl g (o + j * 4) rfl es _ Tryz.underlying26 rfl HT1.out HRA.out ?_)
            | (refine stNew 26 (.tmp 5) (.tmp 29) rfl rfl wr 26 #[.int .i8 0, .int .i8 0, .int .u64 0, nilS] es rfl rfl rfl HT1.out (by rw [hes]; rfl) HO1.out ?_))
          have hHd : ∀ (W' : World), Below (wr.alloc (.cells es 26)).drew.heap.size (wr.alloc (.cells es 26)).drew W' → Bk3 wr.heap.size es W' := fun W' hb => ⟨fun i v hi => (cell_same (hb.block _ (by omega))).trans (HRk.out.rk i v hi)⟩
          have HHd := hid hHd
          clear hHd
          refine wpK_begin (Bk3 wr.heap.size es) (Bc3 (w.heap.size + 1 + 1) (.slice vo j vc)) 5 (by kernel_rfl) HRk.out HRc.out (fun hHeld => ?_)
          simp only [Act.put]
          generalize (wr.alloc (.cells es 26)).drew = wd at HC HSd HRk HRc HHd hHeld hzd ⊢
          refine wpK_takeS (i := 0) (v := ?_) rfl (by kernel_rfl) (by kernel_rfl) (by kernel_rfl) (by decide) (fun _ _ _ h => h) (Or.inl ⟨by rfl, ?_⟩) hHeld ?_
          rotate_left
          · intro w' hSw
            clear hSw
            go_simp
            first | done | with_reducible rfl
          simp only [Act.put, List.getElem_toArray, List.getElem_cons_zero, List.setIfInBounds_toArray, List.set_cons_zero, List.set_cons_succ]
          refine wpK_takeT (i := 1) (v := ?_) rfl (by kernel_rfl) (by kernel_rfl) (by kernel_rfl) (by decide) (by kernel_rfl) rfl (fun _ _ _ h => h) (Or.inl ⟨by rfl, ?_⟩) hHeld ?_
          rotate_left
          · intro w' hSw
            have c3 := hSw.2.c3
            clear hSw
            go_simp
            first | done | with_reducible rfl
          simp only [Act.put, List.getElem_toArray, List.getElem_cons_succ, List.getElem_cons_zero, List.setIfInBounds_toArray, List.set_cons_zero, List.set_cons_succ]
          refine wpK_takeS (i := 2) (v := .agg es) rfl (by kernel_rfl) (by kernel_rfl) (by kernel_rfl) (by decide) (fun _ _ _ h => h) (Or.inl ⟨by rfl, ?_⟩) hHeld ?_
          · intro w' hSw
            exact runLd 26 (.tmp 5) rfl wr.heap.size 0 rfl es _ hSw.rk Tryz.underlying26 rfl HT1.out
          simp only [Act.put, List.getElem_toArray, List.getElem_cons_succ, List.getElem_cons_zero, List.setIfInBounds_toArray, List.set_cons_zero, List.set_cons_succ]
          refine kn1 3 _ (by kernel_rfl) rfl (Sp.of rfl (stepFnW 7 (.func 7) [.tmp 32] _ [.agg es] rfl rfl rfl rfl (fun _ => rfl) _ HC.out ?_))
          rintro e w2 ⟨ds, rfl, hw, hds⟩
          refine Or.inl ⟨_, rfl, ?_⟩
          have HX := hid (And.intro hw hds)
          have hd4 := hds.size
          clear hds
          refine ⟨⟨HHd.out _ hw, Or.inr ⟨(four_cells (HSd.out.on hw).row).2.2.2⟩⟩, ?_⟩
          clear hw
          simp only [Act.put, List.getElem_toArray, List.getElem_cons_succ, List.getElem_cons_zero, List.setIfInBounds_toArray, List.set_cons_zero, List.set_cons_succ]
          refine kn1 4 _ (by kernel_rfl) rfl (Sp.bs 24 26 (.tmp 33) rfl rfl ds rfl Tryz.underlying24 infoTM hd4 (by omega) (by omega) ?_)
          have hb4 : Below wd.heap.size wd (w2.alloc (.cells ds 26)) := HX.out.1.trans ((Below.refl _ _).alloc HX.out.1.size _)
          have HS4 := hid (HSd.out.on hb4)
          refine ⟨⟨HHd.out _ hb4, Or.inr ⟨(four_cells HS4.out.row).2.2.2⟩⟩, ?_⟩
          simp only [Act.put, List.getElem_toArray, List.getElem_cons_succ, List.getElem_cons_zero, List.setIfInBounds_toArray, List.set_cons_zero, List.set_cons_succ]
          obtain ⟨xs', g1, g2⟩ := HS4.out.ks
          have hlt4 : (ks.take j).length = j := by rw [List.length_take]; omega
          rw [hlt4] at g1
          refine kn1 5 _ (by kernel_rfl) rfl (Sp.rw (.tmp 31) (.tmp 34) 24 rfl rfl (k := 4) (t := 26) (n := j) (m := 1) (c := 1) (us := ds.toList) (ad := ⟨w2.heap.size, 0, none⟩) rfl rfl Tryz.underlying24 infoTM rfl (by omega) (by omega) g1 (by simp [hd4]) (fun jj x hx => by rw [Addr.add_lit, Nat.zero_add, cell_of_row _ _ _ _ _ _ (heap_alloc_new _ _)]; simpa using hx) (fun x hx => by have h1 := HX.out.2.one; rw [Array.all_eq_true_iff_forall_mem] at h1; exact h1 x (by simpa using hx)) (by omega) (Or.inl (by omega)) ?_)
          intro v' w5 hA hW
          obtain ⟨ao', cap', rfl⟩ := (hW _ g1).form
          have hown : ∀ b, (Value.slice vo j vc).ownBlock = some b → W0.heap.size ≤ b ∧ b ≠ w.heap.size + 1 + 1 ∧ b < wr.heap.size := fun b hb => by
            obtain ⟨ys, q1, -⟩ := HS.out.ks
            have h1 := q1.own b hb
            exact ⟨h1.1, h1.2, q1.ownLt b hb⟩
          have hz4 := hb4.size
          have hBlt : w.heap.size + 1 + 1 < wr.heap.size := (Array.getElem?_eq_some_iff.1 HS.out.row).1
          have hB5 : w5.heap[w.heap.size + 1 + 1]? = some (.cells (tmc op fd n (.slice vo j vc)) 26 (0, 0)) := (hA.block _ (by omega) (fun e => (hown _ e).2.1 rfl)).trans HS4.out.row
          have HS5 : Hid (BrS W0 (w.heap.size + 1 + 1) op fd n (ks.take j ++ [ks[j]]) (.slice ao' (j + 1) cap') (w5.setCell ⟨w.heap.size + 1 + 1, 3, none⟩ (.slice ao' (j + 1) cap'))) := HSd.out.app HX.out.1 HX.out.2 rfl hA (by rw [hlt4]; exact g1) g2 (by rw [hlt4]; exact hW)
          have hk5 : Bk3 wr.heap.size es w5 := ⟨fun i v hi => (cell_same (hA.block _ (by omega) (fun e => by have := (hown _ e).2.2; omega))).trans ((HHd.out _ hb4).rk i v hi)⟩
          clear hA hW g1 g2 hown
          refine ⟨⟨hk5, Or.inl rfl⟩, ?_⟩
          simp only [Act.put, List.getElem_toArray, List.getElem_cons_succ, List.getElem_cons_zero, List.setIfInBounds_toArray, List.set_cons_zero, List.set_cons_succ]
          have hHeld : Bk3 wr.heap.size es w5 ∧ Til 5 (Bc3 (w.heap.size + 1 + 1) (.slice vo j vc)) #[true, true, true, true, true, true, false, false] w5 := ⟨hk5, Or.inl rfl⟩
          refine wpK_takeS (i := 6) (v := ?_) rfl (by kernel_rfl) (by kernel_rfl) (by kernel_rfl) (by decide) (fun _ _ _ h => h) (Or.inl ⟨by rfl, ?_⟩) hHeld ?_
          rotate_left
          · intro w' hSw
            clear hSw
            go_simp
            first | done | with_reducible rfl
          simp only [Act.put, List.getElem_toArray, List.getElem_cons_succ, List.getElem_cons_zero, List.setIfInBounds_toArray, List.set_cons_zero, List.set_cons_succ]
          refine kn1 7 _ (by kernel_rfl) rfl (Sp.stt (.tmp 36) (.tmp 35) rfl rfl (w.heap.size + 1 + 1) 3 ao' (j + 1) cap' _ rfl rfl (four_cells hB5).2.2.2 (row_frozen hB5) ?_)
          refine ⟨⟨⟨fun i v hi => (cell_same (heap_setCell_other w5 ⟨w.heap.size + 1 + 1, 3, none⟩ wr.heap.size _ (by show wr.heap.size ≠ w.heap.size + 1 + 1; omega))).trans (hk5.rk i v hi)⟩, Or.inl rfl⟩, ?_⟩
          simp only [Act.put, List.getElem_toArray, List.getElem_cons_succ, List.getElem_cons_zero]
          refine wpK_done (by kernel_rfl) ?_ _
          clear hHeld hk5 hB5
          generalize w5.setCell ⟨w.heap.size + 1 + 1, 3, none⟩ (.slice ao' (j + 1) cap') = w6 at HS5 ⊢
          go_wp2
          have htk : ks.take (j + 1) = ks.take j ++ [ks[j]] := by rw [List.take_add_one, List.getElem?_eq_getElem hj]; rfl
          have hX : ∃ (k : Nat) (vo : Option Addr) (vc : Nat), Value.int .i64 ((j : Int) + 1) = .int .i64 ((k : Nat) : Int) ∧ k ≤ ks.length ∧ Hid (BrS W0 (w.heap.size + 1 + 1) op fd n (ks.take k) (.slice vo k vc) w6) := ⟨j + 1, ao', cap', by rw [show (((j + 1 : Nat) : Nat) : Int) = (j : Int) + 1 by omega], hj, by rw [htk]; exact HS5⟩
          refine ⟨?_, ?_⟩
          · first
              | exact hX
              | ((repeat apply Exists.intro); refine ⟨?_, rfl⟩; exact hX)
          · simp [intOf]; omega
        · have hs3 : decide ((j : Int) < (ks.length : Int)) = false := by simp; omega
          obtain rfl : j = ks.length := by omega
          have HS' := HS.out
          rw [List.take_length] at HS'
          have HX := hid HS'.end
          have hlow : Below w.heap.size w wr := HB0.out.trans (HS'.low.mono (by omega))
          have HB := hid hlow
          have HY := hid HS'.row
          have HZ : Hid (wr.heap[w.heap.size + 1]? = some (.cells (tmc 0 0 0 nilS) 26 (0, 0))) := (HS'.low.block _ (by omega)).trans HR0.out
          have HO := hid HX.out.one
          clear HS HS' hlow
          have hN1 : wr.heap[w.heap.size + 1 + 1]? = some (.cells (tmc op fd n (.slice vo ks.length vc)) 26 (0, 0)) := HY.out
          go_wp2_with (first
            | (refine ldRow 26 (.tmp 3) rfl rfl (w.heap.size + 1 + 1) rfl 26 (tmc op fd n (.slice vo ks.length vc)) _ Tryz.underlying26 rfl sizeTM hN1 ?_)
            | (refine stRow 26 (.tmp 2) (.tmp 38) rfl rfl (w.heap.size + 1) (tmc op fd n (.slice vo ks.length vc)) rfl rfl 26 (tmc 0 0 0 nilS) HZ.out sizeTM rfl HO.out ?_))
          have hbR : Below w.heap.size w (wr.setRow (w.heap.size + 1) (tmc op fd n (.slice vo ks.length vc))) := bel_row HB.out (by omega) _
          refine bodyPost_ret (v := .agg (tmc op fd n (.slice vo ks.length vc))) (res_tm Tryz.results7 _ _ (w.heap.size + 1) _ sizeTM rfl (setRow_heap wr _ _ _ _ _ HZ.out)) rfl ⟨_, rfl, hbR, ?_⟩
          exact tm_on HX.out fun b hb hS => ⟨by omega, setRow_other wr _ b _ (by omega)⟩
theorem bare_any : ∀ (N : Nat) (t : Tm) (cs : Array Value) (w : World), sz t ≤ N → N ≤ 4096 → (∃ b, okT b t = true) → UmV (fun b => b < w.heap.size) w t cs → Calls Tryz.prog 7 #[.agg cs] w fun e w' => ∃ ds, e = .returned (.agg ds) ∧ Below w.heap.size w w' ∧ TmV (fun b => w.heap.size ≤ b) w' t ds := by
  intro N
  induction N with
  | zero => intro t cs w hN; have := sz_pos t; omega
  | succ N ih => exact bare_step N ih
end Go.Proofs.YtoncogkamlgjhaaGreatDoor
namespace Go.Proofs.YtoncogkamlgjhaaGreatDoor
set_option maxRecDepth 100000
open Go.RowKit
set_option maxRecDepth 100000

/-- the policy that is wanted, under way: its block, the queries that it has -/
structure WnS (w : World) (x0 x1 x2 x3 : Value) (acc : List Qy) (v : Value) (wr : World) : Prop where
  low : Below w.heap.size w wr
  row : wr.heap[w.heap.size]? = some (.cells #[x0, x1, x2, x3, v] 29 (0, 0))
  ks : ∃ xs, Rw (fun b => w.heap.size < b) 5 40 wr v acc.length xs ∧ QyL (fun b => w.heap.size < b ∧ v.ownBlock ≠ some b) wr acc xs
theorem WnS.on {w : World} {x0 x1 x2 x3 : Value} {acc : List Qy} {v : Value} {wr w' : World} (h : WnS w x0 x1 x2 x3 acc v wr) (hb : Below wr.heap.size wr w') : WnS w x0 x1 x2 x3 acc v w' := by
  obtain ⟨xs, g1, g2⟩ := h.ks
  have hB := (Array.getElem?_eq_some_iff.1 h.row).1
  exact ⟨h.low.trans (hb.mono h.low.size), (hb.block _ hB).trans h.row, xs, g1.carry fun b hl hS => ⟨hS, hb.block b hl⟩, QyL.carry (fun b hl hS => ⟨hS, hb.block b hl⟩) _ _ g2⟩
theorem WnS.beg (w : World) (x0 x1 x2 x3 : Value) : WnS w x0 x1 x2 x3 [] nilS (w.alloc (.cells #[x0, x1, x2, x3, nilS] 29)) :=
  ⟨(Below.refl _ _).alloc (Nat.le_refl _) _, heap_alloc_new _ _, [], Rw.nil _ _ _ _, rfl⟩
theorem WnS.app {w : World} {x0 x1 x2 x3 : Value} {acc : List Qy} {v v' : Value} {wr w1 w2 w3 : World} {q : Qy} {cs : Array Value} {xs : List Value} (h : WnS w x0 x1 x2 x3 acc v wr) (hb1 : Below wr.heap.size wr w1) (ht : TmV (fun b => wr.heap.size ≤ b) w1 q.pd cs) (h2 : w2 = w1.alloc (.cells (#[.string q.nm] ++ cs) 40)) (hA : Apd w2 v w3)
    (g1 : Rw (fun b => w.heap.size < b) 5 40 w2 v acc.length xs) (g2 : QyL (fun b => w.heap.size < b ∧ v.ownBlock ≠ some b) w2 acc xs) (hw : ∀ S, Rw S 5 40 w2 v acc.length xs → Rw (fun b => S b ∨ w2.heap.size ≤ b) 5 40 w3 v' (acc.length + 1) (xs ++ (.string q.nm :: cs.toList))) : WnS w x0 x1 x2 x3 (acc ++ [q]) v' (w3.setCell ⟨w.heap.size, 4, none⟩ v') := by
  have hb2 : Below w1.heap.size w1 w2 := by rw [h2]; exact (Below.refl _ _).alloc (Nat.le_refl _) _
  have hb12 : Below wr.heap.size wr w2 := hb1.trans (hb2.mono hb1.size)
  have hJ := h.on hb12
  have hz := h.low.size
  have hz1 := hb1.size
  have hz2 := hb2.size
  have hBr := (Array.getElem?_eq_some_iff.1 h.row).1
  have hown : ∀ b, v.ownBlock = some b → w.heap.size < b := fun b hb => g1.own b hb
  have hownlt : ∀ b, v.ownBlock = some b → b < wr.heap.size := fun b hb => by
    obtain ⟨ys, q1, -⟩ := h.ks
    exact q1.ownLt b hb
  have hself := hw (fun b => v.ownBlock = some b) (g1.self.carry fun b _ hS => ⟨hS.2, rfl⟩)
  have hv' : ∀ b, v'.ownBlock = some b → v.ownBlock = some b ∨ w2.heap.size ≤ b := fun b hb => hself.own b hb
  have hne : ∀ b, b < w2.heap.size → v.ownBlock ≠ some b → v'.ownBlock ≠ some b := fun b hb hn e => by
    rcases hv' b e with q | q
    · exact hn q
    · omega
  have hB3 : w3.heap[w.heap.size]? = some (.cells #[x0, x1, x2, x3, v] 29 (0, 0)) := (hA.block _ (by omega) (fun e => by have := hown _ e; omega)).trans hJ.row
  have ho3 : Only (fun b => w.heap.size ≤ b) w2 w3 := hA.only (fun b hb => by show w.heap.size ≤ b; omega) (fun b hb => by have := hown b hb; show w.heap.size ≤ b; omega)
  have hl3 : Below w.heap.size w w3 := hJ.low.trans (ho3.below fun k hk => hk)
  have hoth : ∀ k, k ≠ w.heap.size → (w3.setCell ⟨w.heap.size, 4, none⟩ v').heap[k]? = w3.heap[k]? := fun k hk => heap_setCell_other w3 ⟨w.heap.size, 4, none⟩ k v' hk
  refine ⟨hl3.setCell (p := ⟨w.heap.size, 4, none⟩) (Nat.le_refl _) v', ?_, xs ++ (.string q.nm :: cs.toList), ?_, ?_⟩
  · have := heap_setCell_same w3 w.heap.size 4 #[x0, x1, x2, x3, v] 29 v' hB3
    simpa using this
  · rw [List.length_append]
    exact (hw _ g1).carry fun b _ hS => by
      have hS' : w.heap.size < b := by
        rcases hS with q | q
        · exact q
        · omega
      exact ⟨hS', hoth b (by omega)⟩
  · refine QyL.carry (S := fun b => w.heap.size < b ∧ v'.ownBlock ≠ some b) (w := w3) (fun b _ hS => ⟨hS, hoth b (by omega)⟩) _ _ ?_
    refine QyL.snoc (tm_on (w := w1) (S := fun b => wr.heap.size ≤ b) ht fun b hb hS => ?_) _ _ (QyL.carry (fun b hb hS => ⟨⟨hS.1, hne b hb hS.2⟩, hA.block b hb hS.2⟩) _ _ g2)
    have hn : v.ownBlock ≠ some b := fun e => by have := hownlt b e; omega
    exact ⟨⟨by omega, hne b (by omega) hn⟩, (hA.block b (by omega) hn).trans (hb2.block b hb)⟩
/-- what a step of the loop reads -/
structure Bq3 (K : Nat) (nm : ByteArray) (ds : Array Value) (W : World) : Prop where
  c0 : W.cell? ⟨K, 0, none⟩ = some (.string nm)
  rk : W.rangeAt K 1 ds.toList
structure Bq4 (B : Nat) (v : Value) (W : World) : Prop where
  c4 : W.cell? ⟨B, 4, none⟩ = some v
theorem bq3_of {W : World} {K : Nat} {nm : ByteArray} {x0 x1 x2 x3 : Value} (h : W.heap[K]? = some (.cells #[.string nm, x0, x1, x2, x3] 40 (0, 0))) : Bq3 K nm #[x0, x1, x2, x3] W :=
  ⟨(cell_of_row _ _ _ _ _ _ h).trans rfl, fun j v hj => by
    rw [cell_of_row _ _ _ _ _ _ h, Nat.add_comm]
    simpa using hj⟩
theorem Bq3.on {W W' : World} {K : Nat} {nm : ByteArray} {ds : Array Value} (h : Bq3 K nm ds W) (e : W'.heap[K]? = W.heap[K]?) : Bq3 K nm ds W' := ⟨(cell_same e).trans h.c0, fun i v hi => (cell_same e).trans (h.rk i v hi)⟩
theorem c4_of {W : World} {B : Nat} {x0 x1 x2 x3 v : Value} (h : W.heap[B]? = some (.cells #[x0, x1, x2, x3, v] 29 (0, 0))) : W.cell? ⟨B, 4, none⟩ = some v := (cell_of_row _ _ _ _ _ _ h).trans rfl
theorem po_at3 {S : Nat → Prop} {w : World} {qs : List Qy} {ao : Option Addr} {cap : Nat} {xs : List Value} (h : Rx S 5 w (.slice ao qs.length cap) qs.length xs) (hl : UyL S w qs xs) {j : Nat} (hj : j < qs.length) :
    ∃ g o, ao = some ⟨g, o, none⟩ ∧ qs.length ≤ cap ∧ g < w.heap.size ∧ ∃ ds, UmV S w (qs[j]).pd ds ∧ w.rangeAt g (o + j * 5) (#[Value.string (qs[j]).nm] ++ ds).toList := by
  obtain ⟨g, o, e, hc, -, hg, hr⟩ := h.at hj
  obtain ⟨ds, h4, h5⟩ := UyL.at qs xs j hj hl
  refine ⟨g, o, e, hc, hg, ds, h4, hr _ fun i hi => ?_⟩
  have hi5 : i < 5 := by have := h4.size; simp at hi; omega
  rw [h5 i hi5]
  simp
theorem WnS.end {w wr : World} {t : Tm} {x0 x1 x2 x3 : Value} {qs : List Qy} {v : Value} (h : WnS w x0 x1 x2 x3 qs v wr) (hm : TmV (fun _ => True) w t #[x0, x1, x2, x3]) : PoV (fun _ => True) wr ⟨t, qs⟩ #[x0, x1, x2, x3, v] := by
  obtain ⟨xs, g1, g2⟩ := h.ks
  exact ⟨#[x0, x1, x2, x3], v, xs, rfl, tm_on hm fun b hb _ => ⟨trivial, h.low.block b hb⟩, g1.carry fun b _ _ => ⟨trivial, rfl⟩, QyL.carry (fun b _ _ => ⟨trivial, rfl⟩) _ _ g2⟩
theorem five_rng7 {w : World} {b t : Nat} {x0 x1 x2 x3 x4 : Value} (h : w.heap[b]? = some (.cells #[x0, x1, x2, x3, x4] t (0, 0))) : w.rangeAt b 0 (#[x0, x1, x2, x3] : Array Value).toList := fun i v hi => by
  have hl := (List.getElem?_eq_some_iff.1 hi).1
  have hi4 : i < 4 := by simpa using hl
  rw [Nat.zero_add, cell_of_row _ _ _ _ _ _ h, ← hi]
  have : i = 0 ∨ i = 1 ∨ i = 2 ∨ i = 3 := by omega
  rcases this with rfl | rfl | rfl | rfl <;> rfl
theorem one5 {y0 y1 y2 y3 : Value} (h : (#[y0, y1, y2, y3] : Array Value).all (·.oneCell') = true) : (#[y0, y1, y2, y3, nilS] : Array Value).all (·.oneCell') = true := by
  simp only [List.all_toArray, List.all_cons, List.all_nil, Bool.and_true] at h ⊢
  simpa [Value.oneCell'] using h
theorem one5s {nm : ByteArray} {y0 y1 y2 y3 : Value} (h : (#[y0, y1, y2, y3] : Array Value).all (·.oneCell') = true) : (#[Value.string nm, y0, y1, y2, y3] : Array Value).all (·.oneCell') = true := by
  simp only [List.all_toArray, List.all_cons, List.all_nil, Bool.and_true] at h ⊢
  simpa [Value.oneCell'] using h
/-- what Text answers of a policy that came in -/
def okB (p : Pi) : Prop := ∃ q : Po, p = pi q ∧ OkP q ∧ q.qs.length ≤ 32 ∧ (txt q).size ≤ 65536
set_option maxHeartbeats 12800000 in
theorem back_no (p : Pi) (cs : Array Value) (w : World) (hp : PiV (fun b => b < w.heap.size) w p cs) (hx : ¬ okB p) (hT : TabS w) (hz : 9 ≤ w.heap.size) : Calls Tryz.prog 3 #[.agg cs] w fun e w' => e = .returned (.bool true) ∧ Below w.heap.size w w' := by
  have HWk : Hid (∀ W, Below w.heap.size w W → Calls Tryz.prog 5 #[] W fun e w' => e = .returned (.bool true) ∧ Below W.heap.size W w') := fun W hb => wwakes_any W (hT.on hb hz) (by have := hb.size; omega)
  have hb1 : Below w.heap.size w (w.alloc (.cells cs 29)) := (Below.refl _ _).alloc (Nat.le_refl _) _
  have hp1 : PiV (fun b => b < (w.alloc (.cells cs 29)).heap.size) (w.alloc (.cells cs 29)) p cs := hp.carry fun b hb _ => ⟨by simp; omega, heap_alloc_old _ _ hb⟩
  have HTy : Hid (Calls Tryz.prog 4 #[.agg cs] (w.alloc (.cells cs 29)) fun e w' => (∃ ec : Int, (ec == 0) = false ∧ e = .returned (.tuple #[.string ⟨#[]⟩, .int .i64 ec])) ∧ Below (w.alloc (.cells cs 29)).heap.size (w.alloc (.cells cs 29)) w') := (text_any p cs _ hp1 (hT.on hb1 hz) (by have := hb1.size; omega)).mono fun e w' ⟨h1, h2⟩ => by
    refine ⟨?_, h1⟩
    rcases h2 with ⟨-, rfl⟩ | ⟨q, e1, e2, e3, ⟨-, rfl⟩ | ⟨e4, -⟩⟩
    · exact ⟨170, by decide, rfl⟩
    · exact ⟨3, by decide, rfl⟩
    · exact absurd ⟨q, e1, e2, e3, e4⟩ hx
  have HN1 : Hid ((w.alloc (.cells cs 29)).heap[w.heap.size]? = some (.cells cs 29 (0, 0))) := heap_alloc_new _ _
  have HIn := hid hp.info
  have HB1 := hid hb1
  clear hp hp1 hb1 hT hx
  go_enter Tryz.func3, Tryz.ntmps3
  go_upto_region 1 with fail
  generalize w.alloc (.cells cs 29) = W1 at HTy HN1 HB1 ⊢
  go_upto_region 2 with (first
    | (refine ldRow 29 (.tmp 1) rfl rfl w.heap.size rfl 29 cs _ Tryz.underlying29 rfl HIn.out HN1.out ?_)
    | (go_at_call 4; refine (HTy.out).mono ?_; rintro e W3 ⟨⟨ec, hec, rfl⟩, hw⟩; have HB3 := hid (HB1.out.trans (hw.mono HB1.out.size)); have HW3 := hid (HWk.out W3 HB3.out); clear hw))
  have hec2 : (ec != 0) = true := by simp [bne, hec]
  clear HTy HN1 HB1
  go_wp2_with (go_at_call 5; refine (HW3.out).mono ?_; rintro e w' ⟨rfl, hw⟩; have HX := hid (HB3.out.trans (hw.mono HB3.out.size)); clear hw)
  go_ret
  exact ⟨rfl, HX.out⟩
set_option maxHeartbeats 25600000 in
theorem back_ok (q : Po) (cs : Array Value) (w : World) (hp : PiV (fun b => b < w.heap.size) w (pi q) cs) (hok : OkP q) (hl32 : q.qs.length ≤ 32) (hts : (txt q).size ≤ 65536) (hT : TabS w) (hz : 9 ≤ w.heap.size) : Calls Tryz.prog 3 #[.agg cs] w fun e w' => e = .returned (.bool true) ∧ Below w.heap.size w w' := by
  have HWk : Hid (∀ W, Below w.heap.size w W → Calls Tryz.prog 5 #[] W fun e w' => e = .returned (.bool true) ∧ Below W.heap.size W w') := fun W hb => wwakes_any W (hT.on hb hz) (by have := hb.size; omega)
  obtain ⟨ms, qv, xs, rfl, hm, hr, hql⟩ := piV_get hp
  obtain ⟨ao, cap, rfl⟩ := hr.form
  have hms := hm.size
  obtain ⟨x0, x1, x2, x3, rfl⟩ := arr4 hms
  have hb1 : Below w.heap.size w (w.alloc (.cells #[x0, x1, x2, x3, .slice ao q.qs.length cap] 29)) := (Below.refl _ _).alloc (Nat.le_refl _) _
  have hp1 : PiV (fun b => b < (w.alloc (.cells #[x0, x1, x2, x3, .slice ao q.qs.length cap] 29)).heap.size) (w.alloc (.cells #[x0, x1, x2, x3, .slice ao q.qs.length cap] 29)) (pi q) #[x0, x1, x2, x3, .slice ao q.qs.length cap] := hp.carry fun b hb _ => ⟨by simp; omega, heap_alloc_old _ _ hb⟩
  obtain ⟨st, hst⟩ : ∃ st, st = txt q := ⟨_, rfl⟩
  have HTy : Hid (Calls Tryz.prog 4 #[.agg #[x0, x1, x2, x3, .slice ao q.qs.length cap]] (w.alloc (.cells #[x0, x1, x2, x3, .slice ao q.qs.length cap] 29)) fun e w' => e = .returned (.tuple #[.string st, .int .i64 0]) ∧ Below (w.alloc (.cells #[x0, x1, x2, x3, .slice ao q.qs.length cap] 29)).heap.size (w.alloc (.cells #[x0, x1, x2, x3, .slice ao q.qs.length cap] 29)) w') := (text_any (pi q) _ _ hp1 (hT.on hb1 hz) (by have := hb1.size; omega)).mono fun e w' ⟨h1, h2⟩ => by
    refine ⟨?_, h1⟩
    rcases h2 with ⟨h2, -⟩ | ⟨q', e1, e2, e3, ⟨e4, -⟩ | ⟨e4, rfl⟩⟩
    · exact absurd (okP_okI hok hl32) h2
    · obtain rfl := pi_inj e1; omega
    · obtain rfl := pi_inj e1; rw [hst]
  have HPT : Hid (prs st = .ok q) := by show _ = _; rw [hst]; exact prs_txt hok hts
  have HTs : Hid (st.size ≤ 65536) := by show _ ≤ _; rw [hst]; exact hts
  have HFit := hid hok.fits
  have hfz := (fitsB_iff q).1 hok.fits
  have HSm : Hid (sz q.main ≤ 4096 ∧ ∀ x ∈ q.qs, sz x.pd ≤ 4096) := ⟨by omega, fun x hx => by have := qszm hx; omega⟩
  have HOkm : Hid (okT false q.main = true) := hok.main
  have HOkq : Hid (∀ x ∈ q.qs, okT true x.pd = true) := hok.pd
  have HN1 : Hid ((w.alloc (.cells #[x0, x1, x2, x3, .slice ao q.qs.length cap] 29)).heap[w.heap.size]? = some (.cells #[x0, x1, x2, x3, .slice ao q.qs.length cap] 29 (0, 0))) := heap_alloc_new _ _
  have HM := hid hm
  have HR := hid hr
  have HQL := hid hql
  have HT := hid hT
  have HB1 := hid hb1
  clear hp hp1 hb1 hT hst hm hr hql hfz hok hts hms
  go_enter Tryz.func3, Tryz.ntmps3
  go_upto_region 1 with fail
  generalize w.alloc (.cells #[x0, x1, x2, x3, .slice ao q.qs.length cap] 29) = W1 at HTy HN1 HB1 ⊢
  go_upto_region 4 with (first
    | (refine ldRow 29 (.tmp 1) rfl rfl w.heap.size rfl 29 #[x0, x1, x2, x3, .slice ao q.qs.length cap] _ Tryz.underlying29 rfl sizePO HN1.out ?_)
    | (go_at_call 4; refine (HTy.out).mono ?_; rintro e W2 ⟨rfl, hw⟩; have HB2 := hid (HB1.out.trans (hw.mono HB1.out.size)); have HN2 := hid ((hw.block _ (Array.getElem?_eq_some_iff.1 HN1.out).1).trans HN1.out); clear hw))
  clear HTy HN1 HB1
  have HP4 := hid (pol_ok W2 (HT.out.on HB2.out hz).z (by have := HTs.out; omega) HPT.out)
  have HZ2 : Hid (w.heap.size < W2.heap.size) := (Array.getElem?_eq_some_iff.1 HN2.out).1
  go_upto_region 5 with (first
    | (go_at_call 6; refine (HP4.out).mono ?_; rintro e W4 ⟨hb, ds, rfl, hv⟩; have HB4 := hid hb; have HV4 := hid hv; clear hb hv HP4)
    | (refine stNew 29 (.tmp 5) (.tmp 25) rfl rfl W4 29 pz ds rfl rfl rfl HV4.out.info (by rw [HV4.out.size]; rfl) HV4.out.one ?_))
  have hb5 : Below W2.heap.size W2 (W4.alloc (.cells ds 29)) := HB4.out.alloc HB4.out.size _
  have HB5 := hid (HB2.out.trans (hb5.mono HB2.out.size))
  have HN5 : Hid ((W4.alloc (.cells ds 29)).heap[W4.heap.size]? = some (.cells ds 29 (0, 0))) := heap_alloc_new _ _
  have HM5 := hid ((hb5.block _ HZ2.out).trans HN2.out)
  have HV5 : Hid (PoV (fun _ => True) (W4.alloc (.cells ds 29)) q ds) := HV4.out.carry fun b hb _ => ⟨trivial, heap_alloc_old _ _ hb⟩
  have HIn5 := hid HV4.out.info
  clear hb5 HB4 HV4 HB2 HN2 HPT HTs HZ2
  generalize W4.alloc (.cells ds 29) = W5 at HB5 HN5 HM5 HV5 ⊢
  generalize W4.heap.size = P2 at HN5 ⊢
  have HC5 := hid (bare_any 4096 q.main #[x0, x1, x2, x3] W5 HSm.out.1 (Nat.le_refl _) ⟨_, HOkm.out⟩ (um_on HM.out fun b hb hS => ⟨by have := HB5.out.size; omega, HB5.out.block b hb⟩))
  have HR5 := hid (five_rng7 HM5.out)
  go_upto_region 6 with (first
    | (refine ldMid 26 (.tmp 27) rfl rfl w.heap.size 0 rfl #[x0, x1, x2, x3] _ Tryz.underlying26 rfl sizeTM HR5.out ?_)
    | (go_at_call 7; refine (HC5.out).mono ?_; rintro e W6 ⟨es, rfl, hw, he⟩; have HW6 := hid hw; have HE6 := hid he; obtain ⟨y0, y1, y2, y3, rfl⟩ := arr4 he.size; have HO6 := hid he.one; have hbp := fun W => run_bp0 y0 y1 y2 y3 W; clear hw he HC5)
    | (refine stNew 29 (.tmp 7) (.tmp 30) rfl rfl W6 29 pz #[y0, y1, y2, y3, nilS] rfl rfl rfl sizePO rfl (one5 HO6.out) ?_))
  clear hbp
  have HS0 := hid (WnS.beg W6 y0 y1 y2 y3)
  have hz6 := HW6.out.size
  have HN6 := hid ((HW6.out.block _ (Array.getElem?_eq_some_iff.1 HN5.out).1).trans HN5.out)
  have HM6 := hid ((HW6.out.block _ (Array.getElem?_eq_some_iff.1 HM5.out).1).trans HM5.out)
  have HV6 : Hid (PoV (fun _ => True) W6 q ds) := HV5.out.carry fun b hb _ => ⟨trivial, HW6.out.block b hb⟩
  have HB6 := hid (HB5.out.trans (HW6.out.mono HB5.out.size))
  have HE := hid (tm_on HE6.out fun b hb _ => (⟨trivial, rfl⟩ : True ∧ W6.heap[b]? = W6.heap[b]?))
  have HZ6 : Hid (w.heap.size < W6.heap.size ∧ P2 < W6.heap.size) := ⟨(Array.getElem?_eq_some_iff.1 HM6.out).1, (Array.getElem?_eq_some_iff.1 HN6.out).1⟩
  clear HN5 HM5 HV5 HB5 HW6 HE6 HR5 hz6 HSm HOkm
  have HSmq : Hid (∀ x ∈ q.qs, sz x.pd ≤ 4096) := fun x hx => by have := qszm hx; have := ((fitsB_iff q).1 HFit.out).1; omega
  generalize hW7 : W6.alloc (.cells #[y0, y1, y2, y3, nilS] 29) = W7 at HS0
  clear hW7
  have a4 : W7.cell? ⟨w.heap.size, 4, none⟩ = some (.slice ao q.qs.length cap) := c4_of ((HS0.out.low.block _ HZ6.out.1).trans HM6.out)
  go_upto_region 7 with fail
  clear a4
  go_loopw [34] (fun v wr => ∃ (j : Nat) (vo : Option Addr) (vc : Nat), v = .int .i64 ((j : Nat) : Int) ∧ j ≤ q.qs.length ∧ Hid (WnS W6 y0 y1 y2 y3 (q.qs.take j) (.slice vo j vc) wr)) (fun v _ => q.qs.length - (intOf v).toNat)
  case atStart => exact ⟨0, none, 0, rfl, Nat.zero_le _, by rw [List.take_zero]; exact HS0⟩
  case round =>
    clear HS0
    obtain ⟨j, vo, vc, rfl, hj1, HS⟩ := hrel
    by_cases hj : j < q.qs.length
    · have hs3 : decide ((j : Int) < (q.qs.length : Int)) = true := by simp; omega
      have hw3 : IntKind.i64.wrap ((j : Int) + 1) = (j : Int) + 1 := by rw [IntKind.wrap_i64]; omega
      obtain ⟨g, o, e1, hc0, hg, es, ht, hra⟩ := po_at3 HR.out HQL.out hj
      subst e1
      have hjc : j < cap := by omega
      have hes := ht.size
      obtain ⟨z0, z1, z2, z3, rfl⟩ := arr4 hes
      obtain ⟨nm, hnm⟩ : ∃ nm, nm = (q.qs[j]).nm := ⟨_, rfl⟩
      rw [← hnm] at hra
      have HNm := hid hnm
      have hlow : Below w.heap.size w wr := HB6.out.trans (HS.out.low.mono (by have := HB6.out.size; omega))
      have HRA : Hid (wr.rangeAt g (o + j * 5) (#[.string nm, z0, z1, z2, z3] : Array Value).toList) := fun i v hi => (cell_same (hlow.block _ hg)).trans (hra i v hi)
      have hb3 : Below wr.heap.size wr (wr.alloc (.cells #[.string nm, z0, z1, z2, z3] 40)) := (Below.refl _ _).alloc (Nat.le_refl _) _
      have HO1 : Hid ((#[Value.string nm, z0, z1, z2, z3] : Array Value).all (·.oneCell') = true) := one5s ht.one
      have HTw := hid (um_on ht fun b hb hS => (⟨by show b < (wr.alloc (.cells #[.string nm, z0, z1, z2, z3] 40)).drew.heap.size; have := hb3.size; have := hlow.size; show b < (wr.alloc (.cells #[.string nm, z0, z1, z2, z3] 40)).heap.size; omega, (hb3.block b (by have := hlow.size; omega)).trans (hlow.block b hb)⟩ : b < (wr.alloc (.cells #[.string nm, z0, z1, z2, z3] 40)).drew.heap.size ∧ (wr.alloc (.cells #[.string nm, z0, z1, z2, z3] 40)).drew.heap[b]? = w.heap[b]?))
      have HC := hid (bare_any 4096 (q.qs[j]).pd #[z0, z1, z2, z3] (wr.alloc (.cells #[.string nm, z0, z1, z2, z3] 40)).drew (HSmq.out _ (List.getElem_mem hj)) (Nat.le_refl _) ⟨_, HOkq.out _ (List.getElem_mem hj)⟩ HTw.out)
      have HSd := hid ((HS.out.on hb3).on (bel_drew (Below.refl _ _)))
      have hblk : (wr.alloc (.cells #[.string nm, z0, z1, z2, z3] 40)).drew.heap[wr.heap.size]? = some (.cells #[.string nm, z0, z1, z2, z3] 40 (0, 0)) := heap_alloc_new _ _
      have hzd : (wr.alloc (.cells #[.string nm, z0, z1, z2, z3] 40)).drew.heap.size = wr.heap.size + 1 := by show (wr.alloc (.cells #[.string nm, z0, z1, z2, z3] 40)).heap.size = _; simp
      have HRk : Hid (Bq3 wr.heap.size nm #[z0, z1, z2, z3] (wr.alloc (.cells #[.string nm, z0, z1, z2, z3] 40)).drew) := bq3_of hblk
      have HRc : Hid (Bq4 W6.heap.size (.slice vo j vc) (wr.alloc (.cells #[.string nm, z0, z1, z2, z3] 40)).drew) := ⟨c4_of HSd.out.row⟩
      clear hra ht HTw hlow hblk hb3 hnm
      go_upto_region 9 with (first
        | (refine ldMid 40 (.tmp 36) rfl rfl g (o + j * 5) rfl #[.string nm, z0, z1, z2, z3] _ Tryz.underlying40 rfl infoQ5 HRA.out ?_)
        | (refine stNew 40 (.tmp 9) (.tmp 37) rfl rfl wr 40 #[.string ⟨#[]⟩, .int .i8 0, .int .i8 0, .int .u64 0, nilS] #[.string nm, z0, z1, z2, z3] rfl rfl rfl infoQ5 rfl HO1.out ?_))
      have hHd : ∀ (W' : World), Below (wr.alloc (.cells #[.string nm, z0, z1, z2, z3] 40)).drew.heap.size (wr.alloc (.cells #[.string nm, z0, z1, z2, z3] 40)).drew W' → Bq3 wr.heap.size nm #[z0, z1, z2, z3] W' := fun W' hb => HRk.out.on (hb.block _ (by omega))
      have HHd := hid hHd
      clear hHd
      refine wpK_begin (Bq3 wr.heap.size nm #[z0, z1, z2, z3]) (Bq4 W6.heap.size (.slice vo j vc)) 9 (by kernel_rfl) HRk.out HRc.out (fun hHeld => ?_)
      simp only [Act.put]
      generalize (wr.alloc (.cells #[.string nm, z0, z1, z2, z3] 40)).drew = wd at HC HSd HRk HRc HHd hHeld hzd ⊢
      refine wpK_takeS (i := 0) (v := ?_) rfl (by kernel_rfl) (by kernel_rfl) (by kernel_rfl) (by decide) (fun _ _ _ h => h) (Or.inl ⟨by rfl, ?_⟩) hHeld ?_
      rotate_left
      · intro w' hSw
        clear hSw
        go_simp
        first | done | with_reducible rfl
      simp only [Act.put, List.getElem_toArray, List.getElem_cons_zero, List.setIfInBounds_toArray, List.set_cons_zero, List.set_cons_succ]
      refine wpK_takeT (i := 1) (v := ?_) rfl (by kernel_rfl) (by kernel_rfl) (by kernel_rfl) (by decide) (by kernel_rfl) rfl (fun _ _ _ h => h) (Or.inl ⟨by rfl, ?_⟩) hHeld ?_
      rotate_left
      · intro w' hSw
        have c4 := hSw.2.c4
        clear hSw
        go_simp
        first | done | with_reducible rfl
      simp only [Act.put, List.getElem_toArray, List.getElem_cons_succ, List.getElem_cons_zero, List.setIfInBounds_toArray, List.set_cons_zero, List.set_cons_succ]
      refine wpK_takeS (i := 2) (v := ?_) rfl (by kernel_rfl) (by kernel_rfl) (by kernel_rfl) (by decide) (fun _ _ _ h => h) (Or.inl ⟨by rfl, ?_⟩) hHeld ?_
      rotate_left
      · intro w' hSw
        clear hSw
        go_simp
        first | done | with_reducible rfl
      simp only [Act.put, List.getElem_toArray, List.getElem_cons_succ, List.getElem_cons_zero, List.setIfInBounds_toArray, List.set_cons_zero, List.set_cons_succ]
      refine wpK_takeS (i := 3) (v := ?_) rfl (by kernel_rfl) (by kernel_rfl) (by kernel_rfl) (by decide) (fun _ _ _ h => h) (Or.inl ⟨by rfl, ?_⟩) hHeld ?_
      rotate_left
      · intro w' hSw
        have c0 := hSw.c0
        clear hSw
        go_simp
        first | done | with_reducible rfl
      simp only [Act.put, List.getElem_toArray, List.getElem_cons_succ, List.getElem_cons_zero, List.setIfInBounds_toArray, List.set_cons_zero, List.set_cons_succ]
      refine wpK_takeS (i := 4) (v := ?_) rfl (by kernel_rfl) (by kernel_rfl) (by kernel_rfl) (by decide) (fun _ _ _ h => h) (Or.inl ⟨by rfl, ?_⟩) hHeld ?_
      rotate_left
      · intro w' hSw
        clear hSw
        go_simp
        first | done | with_reducible rfl
      simp only [Act.put, List.getElem_toArray, List.getElem_cons_succ, List.getElem_cons_zero, List.setIfInBounds_toArray, List.set_cons_zero, List.set_cons_succ]
      refine wpK_takeS (i := 5) (v := .agg #[z0, z1, z2, z3]) rfl (by kernel_rfl) (by kernel_rfl) (by kernel_rfl) (by decide) (fun _ _ _ h => h) (Or.inl ⟨by rfl, ?_⟩) hHeld ?_
      · intro w' hSw
        exact runLd 26 (.tmp 42) rfl wr.heap.size 1 rfl #[z0, z1, z2, z3] _ hSw.rk Tryz.underlying26 rfl sizeTM
      simp only [Act.put, List.getElem_toArray, List.getElem_cons_succ, List.getElem_cons_zero, List.setIfInBounds_toArray, List.set_cons_zero, List.set_cons_succ]
      refine kn1 6 _ (by kernel_rfl) rfl (Sp.of rfl (stepFnW 7 (.func 7) [.tmp 43] _ [.agg #[z0, z1, z2, z3]] rfl rfl rfl rfl (fun _ => rfl) _ HC.out ?_))
      rintro e w2 ⟨ds', rfl, hw, hds⟩
      refine Or.inl ⟨_, rfl, ?_⟩
      have hd4 := hds.size
      obtain ⟨d0, d1, d2, d3, rfl⟩ := arr4 hd4
      have HX := hid (And.intro hw hds)
      clear hds
      refine ⟨⟨HHd.out _ hw, Or.inr ⟨c4_of (HSd.out.on hw).row⟩⟩, ?_⟩
      simp only [Act.put, List.getElem_toArray, List.getElem_cons_succ, List.getElem_cons_zero, List.setIfInBounds_toArray, List.set_cons_zero, List.set_cons_succ]
      have hHeld : Bq3 wr.heap.size nm #[z0, z1, z2, z3] w2 ∧ Til 9 (Bq4 W6.heap.size (.slice vo j vc)) #[true, true, true, true, true, true, true, false, false, false, false, false] w2 := ⟨HHd.out _ hw, Or.inr ⟨c4_of (HSd.out.on hw).row⟩⟩
      clear hw
      refine wpK_takeS (i := 7) (v := .agg #[.string nm, d0, d1, d2, d3]) rfl (by kernel_rfl) (by kernel_rfl) (by kernel_rfl) (by decide) (fun _ _ _ h => h) (Or.inl ⟨by rfl, ?_⟩) hHeld ?_
      · intro w' hSw
        exact runBd (us := #[(0, .string nm), (1, .agg #[d0, d1, d2, d3])]) _ rfl (by kernel_rfl) (run_bq _ _ _ _ _ _)
      simp only [Act.put, List.getElem_toArray, List.getElem_cons_succ, List.getElem_cons_zero, List.setIfInBounds_toArray, List.set_cons_zero, List.set_cons_succ]
      refine kn1 8 _ (by kernel_rfl) rfl (Sp.bs 27 40 (.tmp 45) rfl rfl #[.string nm, d0, d1, d2, d3] rfl Tryz.underlying27 infoQY rfl (by omega) (by omega) ?_)
      have hb4 : Below wd.heap.size wd (w2.alloc (.cells #[.string nm, d0, d1, d2, d3] 40)) := HX.out.1.trans ((Below.refl _ _).alloc HX.out.1.size _)
      have HS4 := hid (HSd.out.on hb4)
      refine ⟨⟨HHd.out _ hb4, Or.inr ⟨c4_of HS4.out.row⟩⟩, ?_⟩
      simp only [Act.put, List.getElem_toArray, List.getElem_cons_succ, List.getElem_cons_zero, List.setIfInBounds_toArray, List.set_cons_zero, List.set_cons_succ]
      obtain ⟨xs', g1, g2⟩ := HS4.out.ks
      have hlt4 : (q.qs.take j).length = j := by rw [List.length_take]; omega
      rw [hlt4] at g1
      refine kn1 9 _ (by kernel_rfl) rfl (Sp.rw (.tmp 39) (.tmp 46) 27 rfl rfl (k := 5) (t := 40) (n := j) (m := 1) (c := 1) (us := (#[Value.string nm, d0, d1, d2, d3] : Array Value).toList) (ad := ⟨w2.heap.size, 0, none⟩) rfl rfl Tryz.underlying27 infoQY rfl (by omega) (by omega) g1 (by simp) (fun jj x hx => by rw [Addr.add_lit, Nat.zero_add, cell_of_row _ _ _ _ _ _ (heap_alloc_new _ _)]; simpa using hx) (fun x hx => by have h1 := one5s (nm := nm) HX.out.2.one; rw [Array.all_eq_true_iff_forall_mem] at h1; exact h1 x (by simpa using hx)) (by omega) (Or.inl (by omega)) ?_)
      intro v' w5 hA hW
      obtain ⟨ao', cap', rfl⟩ := (hW _ g1).form
      have hown : ∀ b, (Value.slice vo j vc).ownBlock = some b → W6.heap.size < b ∧ b < wr.heap.size := fun b hb => by
        obtain ⟨ys, q1, -⟩ := HS.out.ks
        exact ⟨q1.own b hb, q1.ownLt b hb⟩
      have hz4 := hb4.size
      have hBlt : W6.heap.size < wr.heap.size := (Array.getElem?_eq_some_iff.1 HS.out.row).1
      have hB5 : w5.heap[W6.heap.size]? = some (.cells #[y0, y1, y2, y3, .slice vo j vc] 29 (0, 0)) := (hA.block _ (by omega) (fun e => by have := (hown _ e).1; omega)).trans HS4.out.row
      have HS5 : Hid (WnS W6 y0 y1 y2 y3 (q.qs.take j ++ [q.qs[j]]) (.slice ao' (j + 1) cap') (w5.setCell ⟨W6.heap.size, 4, none⟩ (.slice ao' (j + 1) cap'))) := HSd.out.app (q := q.qs[j]) (cs := #[d0, d1, d2, d3]) HX.out.1 HX.out.2 (by rw [← HNm.out]; rfl) hA (by rw [hlt4]; exact g1) g2 (by rw [hlt4, ← HNm.out]; exact hW)
      have hk5 : Bq3 wr.heap.size nm #[z0, z1, z2, z3] w5 := (HHd.out _ hb4).on (hA.block _ (by omega) (fun e => by have := (hown _ e).2; omega))
      clear hA hW g1 g2 hown
      refine ⟨⟨hk5, Or.inl rfl⟩, ?_⟩
      simp only [Act.put, List.getElem_toArray, List.getElem_cons_succ, List.getElem_cons_zero, List.setIfInBounds_toArray, List.set_cons_zero, List.set_cons_succ]
      have hHeld : Bq3 wr.heap.size nm #[z0, z1, z2, z3] w5 ∧ Til 9 (Bq4 W6.heap.size (.slice vo j vc)) #[true, true, true, true, true, true, true, true, true, true, false, false] w5 := ⟨hk5, Or.inl rfl⟩
      refine wpK_takeS (i := 10) (v := ?_) rfl (by kernel_rfl) (by kernel_rfl) (by kernel_rfl) (by decide) (fun _ _ _ h => h) (Or.inl ⟨by rfl, ?_⟩) hHeld ?_
      rotate_left
      · intro w' hSw
        clear hSw
        go_simp
        first | done | with_reducible rfl
      simp only [Act.put, List.getElem_toArray, List.getElem_cons_succ, List.getElem_cons_zero, List.setIfInBounds_toArray, List.set_cons_zero, List.set_cons_succ]
      refine kn1 11 _ (by kernel_rfl) rfl (Sp.stq (.tmp 48) (.tmp 47) rfl rfl W6.heap.size 4 ao' (j + 1) cap' _ rfl rfl (c4_of hB5) (row_frozen hB5) ?_)
      refine ⟨⟨hk5.on (heap_setCell_other w5 ⟨W6.heap.size, 4, none⟩ wr.heap.size _ (by show wr.heap.size ≠ W6.heap.size; omega)), Or.inl rfl⟩, ?_⟩
      simp only [Act.put, List.getElem_toArray, List.getElem_cons_succ, List.getElem_cons_zero]
      refine wpK_done (by kernel_rfl) ?_ _
      clear hHeld hk5 hB5
      generalize w5.setCell ⟨W6.heap.size, 4, none⟩ (.slice ao' (j + 1) cap') = w6 at HS5 ⊢
      go_wp2
      have htk : q.qs.take (j + 1) = q.qs.take j ++ [q.qs[j]] := by rw [List.take_add_one, List.getElem?_eq_getElem hj]; rfl
      have hX : ∃ (k : Nat) (vo : Option Addr) (vc : Nat), Value.int .i64 ((j : Int) + 1) = .int .i64 ((k : Nat) : Int) ∧ k ≤ q.qs.length ∧ Hid (WnS W6 y0 y1 y2 y3 (q.qs.take k) (.slice vo k vc) w6) := ⟨j + 1, ao', cap', by rw [show (((j + 1 : Nat) : Nat) : Int) = (j : Int) + 1 by omega], hj, by rw [htk]; exact HS5⟩
      refine ⟨?_, ?_⟩
      · first
          | exact hX
          | ((repeat apply Exists.intro); refine ⟨?_, rfl⟩; exact hX)
      · simp [intOf]; omega
    · have hs3 : decide ((j : Int) < (q.qs.length : Int)) = false := by simp; omega
      obtain rfl : j = q.qs.length := by omega
      have HS' := HS.out
      rw [List.take_length] at HS'
      have HPo := hid (HS'.end HE.out)
      have hlow : Below w.heap.size w wr := HB6.out.trans (HS'.low.mono (by have := HB6.out.size; omega))
      have HB := hid hlow
      have HY := hid HS'.row
      have HNr := hid ((HS'.low.block _ HZ6.out.2).trans HN6.out)
      have HSm := hid (bsame_any q ds #[y0, y1, y2, y3, .slice vo q.qs.length vc] wr HFit.out (HV6.out.carry fun b hb _ => ⟨trivial, HS'.low.block b hb⟩) HPo.out)
      clear HS HS' hlow
      go_wp2_with (first
        | (refine ldRow 29 (.tmp 5) rfl rfl P2 rfl 29 ds _ Tryz.underlying29 rfl HIn5.out HNr.out ?_)
        | (refine ldRow 29 (.tmp 7) rfl rfl W6.heap.size rfl 29 #[y0, y1, y2, y3, .slice vo q.qs.length vc] _ Tryz.underlying29 rfl sizePO HY.out ?_)
        | (go_at_call 8; refine (HSm.out).mono ?_; rintro e W8 ⟨rfl, hw⟩; have HB8 := hid (HB.out.trans (hw.mono HB.out.size)); have HW8 := hid (HWk.out W8 HB8.out); clear hw)
        | (go_at_call 5; refine (HW8.out).mono ?_; rintro e w' ⟨rfl, hw⟩; have HX := hid (HB8.out.trans (hw.mono HB8.out.size)); clear hw))
      go_ret
      exact ⟨rfl, HX.out⟩
theorem back_any (p : Pi) (cs : Array Value) (w : World) (hp : PiV (fun b => b < w.heap.size) w p cs) (hT : TabS w) (hz : 9 ≤ w.heap.size) : Calls Tryz.prog 3 #[.agg cs] w fun e w' => e = .returned (.bool true) ∧ Below w.heap.size w w' := by
  by_cases hx : okB p
  · obtain ⟨q, rfl, h1, h2, h3⟩ := hx
    exact back_ok q cs w hp h1 h2 h3 hT hz
  · exact back_no p cs w hp hx hT hz
end Go.Proofs.YtoncogkamlgjhaaGreatDoor
