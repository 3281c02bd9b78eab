/-
  Proved here: Drop of a table of package tuples. Conditions: fewer than 2 to 31 rows, entries and keys; a rule that is there has its entry in its row.
-/
import Derived.Test.YtimenbkfkdpdcaaDoorWD
import Derived.Test.YtimenbkfkdpdcaaDoorTA
namespace Go.Proofs.YtimenbkfkdpdcaaDoor
open Go.RowKit Go.Maps

theorem zeroM (w : World) : (zeroValue 33).run Tryd.prog w = .ok (mv zf) w := by
  have e : mv zf = .agg #[.int .u64 0, .int .u64 0, .int .u64 0, .int .u64 0, .int .u64 0, .int .u64 0, .int .u64 0, .int .u64 0, .int .u64 0, .int .u64 0, .int .u64 0, .int .u64 0, .int .u64 0, .int .u64 0, .int .u64 0, .int .u64 0, .int .u64 0, .int .u64 0, .int .u64 0, .int .u64 0, .int .u64 0, .int .u64 0] := by kernel_rfl
  rw [e]; simp [go_sem]
set_option maxHeartbeats 1600000 in
set_option maxRecDepth 100000 in
theorem tdrop_no {S : Nat → Prop} {o : Nat → Tag} (w : World) (g : Nat) (ad : Int) (bm nm : Nat) (Gm : Lit → Option Value) (vr : Value) (rs : List Ro) (id : Int) (h : TabM S o w g ad bm nm Gm vr rs) (hid' : (Lit.int .i64 id).wf = true) (hn : Gm (.int .i64 id) = none) :
    Calls Tryd.prog 10 #[pv g, .int .i64 id] w fun e w' => e = .returned (.bool false) ∧ Below w.heap.size w w' := by
  obtain ⟨t0, t1, t2, t3⟩ := three_cells h.hg
  have hlk : (Instr.lookup 52 (.map (some bm)) (.int .i64 id) true).run Tryd.prog w = .ok (.tuple #[mv zf, .bool false]) w := by
    have := h.mm.look_ok lawI Tryd.underlying52 (zeroM w) (key_i hid')
    rw [hn] at this; exact this
  have HL : Hid (Below w.heap.size w (w.alloc (.cells (row 22 zf) 33))) := (Below.refl _ _).alloc (Nat.le_refl _) _
  have hone : (row 22 zf).all (·.oneCell') = true := row_one _ _
  clear h hn
  go_enter Tryd.func10, Tryd.ntmps10
  go_wp2_with (refine stNew 33 (.tmp 5) (.tmp 17) rfl rfl w 33 _ (row 22 zf) rfl rfl rfl (size26 zf) (by rw [row_size]; rfl) hone ?_)
  go_ret
  exact ⟨rfl, HL.out⟩
theorem RowM.zero {S : Nat → Prop} {o : Nat → Tag} {w : World} {ρ : Ro} (h : RowM S o w ρ) : ρ.n = 0 ↔ ∀ l, ρ.E l = [] := by
  constructor
  · intro e l
    have hm := h.mp
    rw [e] at hm
    rcases h.hit l with ⟨_, h2⟩ | ⟨v, h1, _⟩
    · exact h2
    · rw [hm.empty l] at h1; cases h1
  · intro hE
    refine h.mp.none_zero lawH fun l => ?_
    rcases h.hit l with ⟨h1, _⟩ | ⟨v, _, h2, _⟩
    · exact h1
    · exact absurd (hE l) h2
theorem TabM.rowDrop {S : Nat → Prop} {o : Nat → Tag} {w w' : World} {g : Nat} {ad : Int} {bm nm : Nat} {Gm : Lit → Option Value} {vr : Value} {rs : List Ro} {p : Nat} (h : TabM S o w g ad bm nm Gm vr rs) (hO : Only (fun b => (S b ∧ Tg p (o b)) ∨ w.heap.size ≤ b) w w') (hd : ∀ σ ∈ rs, σ.p ≠ p) : TabM S o w' g ad bm nm Gm vr rs := by
  refine h.carry fun b hb hS hT => ⟨hS, rfl, hO.block b fun e => ?_⟩
  rcases e with e | e
  · rcases hT with h1 | h1 | h1 | ⟨σ, hσ, h1⟩
    · exact e.2.tag.1 h1
    · exact e.2.tag.2.1 h1
    · exact e.2.tag.2.2 h1
    · exact hd σ hσ (h1.inj e.2)
  · omega
/-- What Drop leaves of a rule that was there. -/
def TdP (S : Nat → Prop) (w : World) (g : Nat) (ad : Int) (bm nm : Nat) (Gm : Lit → Option Value) (rs : List Ro) (m : Nat → Int) (id : Int) (e : Ending) (w' : World) : Prop :=
  e = .returned (.bool true) ∧ Only S w w' ∧ ∃ o' vr' ρ rs' v t, Out rs (fun k => m (11 + k)) ρ rs' ∧ (∀ l e es, updE ρ.E (kl m) (fl (ρ.E (kl m)) id) l = e :: es → e.r ≤ t) ∧ ∃ n', n' = (if (fl (ρ.E (kl m)) id).isEmpty then ρ.n - 1 else ρ.n) ∧ (n' = 0 ↔ ∀ l, updE ρ.E (kl m) (fl (ρ.E (kl m)) id) l = []) ∧
    TabM S o' w' g ad bm (nm - 1) (updL Gm (.int .i64 id) none) vr' (if n' = 0 then rs' else placeR rs' (dropRo ρ m (fl (ρ.E (kl m)) id) v n' t))
set_option maxHeartbeats 3200000 in
set_option maxRecDepth 100000 in
theorem tdrop_ok {S : Nat → Prop} {o : Nat → Tag} (w : World) (g : Nat) (ad : Int) (bm nm : Nat) (Gm : Lit → Option Value) (vr : Value) (rs : List Ro) (m : Nat → Int) (id : Int) (h : TabM S o w g ad bm nm Gm vr rs) (hf : Fresh S w) (hid' : (Lit.int .i64 id).wf = true) (hn : Gm (.int .i64 id) = some (mv m)) (hw : Wf m)
    (hex : ∀ ρ rs', Out rs (fun k => m (11 + k)) ρ rs' → ρ.E (kl m) ≠ []) (hrl : rs.length < 2147483646) (hrn : ∀ ρ ∈ rs, ρ.n < 2147483648 ∧ ∀ l, (ρ.E l).length < 2147483647) :
    Calls Tryd.prog 10 #[pv g, .int .i64 id] w (TdP S w g ad bm nm Gm rs m id) := by
  obtain ⟨t0, t1, t2, t3⟩ := three_cells h.hg
  have hgl := (Array.getElem?_eq_some_iff.1 h.hg).1
  have hlk : (Instr.lookup 52 (.map (some bm)) (.int .i64 id) true).run Tryd.prog w = .ok (.tuple #[mv m, .bool true]) w := by
    have := h.mm.look_ok lawI Tryd.underlying52 (zeroM w) (key_i hid')
    rw [hn] at this; exact this
  have hone : (row 22 m).all (·.oneCell') = true := row_one _ _
  obtain ⟨W0, hW0⟩ : ∃ W0, W0 = w.alloc (.cells (row 22 m) 33) := ⟨_, rfl⟩
  have hB0 : Below w.heap.size w W0 := by rw [hW0]; exact (Below.refl _ _).alloc (Nat.le_refl _) _
  have hs0 : W0.heap.size = w.heap.size + 1 := by rw [hW0]; simp
  have hG0 : W0.heap[w.heap.size]? = some (.cells (row 22 m) 33 (0, 0)) := by rw [hW0]; exact heap_alloc_new _ _
  obtain ⟨S', hS'⟩ : ∃ S' : Nat → Prop, S' = fun b => S b ∧ b ≠ w.heap.size := ⟨_, rfl⟩
  have hSS : ∀ b, S' b → S b := fun b hb => by rw [hS'] at hb; exact hb.1
  have hSb : ¬ S' w.heap.size := by rw [hS']; exact fun h => h.2 rfl
  have hSf : ∀ W : World, W0.heap.size ≤ W.heap.size → Fresh S' W := fun W hW b hb => by rw [hS']; exact ⟨hf b (by omega), by omega⟩
  have hT0 : TabM S' o W0 g ad bm nm Gm vr rs := h.carry fun b hb1 hS _ => ⟨by rw [hS']; exact ⟨hS, by omega⟩, rfl, hB0.block b hb1⟩
  obtain ⟨y0, y1, -, -⟩ := three_cells hT0.hg
  obtain ⟨w3, hr3, hM3, hT3⟩ := hT0.mm.drop lawI Tryd.underlying52 (key_i hid') 0
  rw [hn] at hM3
  have hdel : ∀ ty, (Builtin.delete_ #[52, 3] ty #[.map (some bm), .int .i64 id]).run Tryd.prog W0 = .ok (.tuple #[]) w3 := fun ty => hr3
  have hT3' : TabM S' o w3 g ad bm (nm - 1) (updL Gm (.int .i64 id) none) vr rs := hT0.setMat hT3 hM3
  have hbmw : w.heap.size ≠ bm := fun e => hSb (e ▸ hT0.sm)
  have hX3 : w3.heap[w.heap.size]? = some (.cells (row 22 m) 33 (0, 0)) := (hT3.block _ hbmw).trans hG0
  have hO3 : Only S w w3 := (Only.of hB0 hf).trans ⟨hT3.os, hT3.tape, hT3.output, Nat.le_of_eq hT3.size.symm, fun b hb => hT3.block b fun e => hb (hSS b (e ▸ hT0.sm))⟩
  have hs3 : W0.heap.size ≤ w3.heap.size := Nat.le_of_eq hT3.size.symm
  have HTk := hid (takeOut_any w3 g ad bm _ _ vr rs (fun k => m (11 + k)) hT3' (hSf w3 hs3) (fun k => hw (11 + k)) (by omega))
  have HRk : Hid (w3.rangeAt w.heap.size 11 (row 11 fun k => m (11 + k)).toList) := range_mask hX3
  have HX3 := hid (And.intro hX3 (And.intro hO3 hs3))
  have HS := hid (And.intro hSS (And.intro hSb hSf))
  have HW0 := hid hW0
  clear h hf hn hB0 hG0 hS' hSS hSb hSf hT0 hr3 hM3 hT3 hT3' hbmw hX3 hO3 hs3 hW0 t0 t2
  go_enter Tryd.func10, Tryd.ntmps10
  go_upto_region 4 with (refine stNew 33 (.tmp 5) (.tmp 17) rfl rfl w 33 _ (row 22 m) rfl rfl rfl (size26 m) (by rw [row_size]; rfl) hone ?_)
  rw [← HW0.out]
  clear HW0
  go_upto_region 8 with (first
    | (refine ldMid 31 (.tmp 27) rfl rfl w.heap.size 11 rfl (row 11 fun k => m (11 + k)) _ Tryd.underlying31 rfl (sizeH _) HRk.out ?_)
    | (go_at_call 19; refine (HTk.out).mono ?_; rintro e w4 ⟨ρ, rs', vr4, o4, rfl, hO4, hT4, hR4, hd4, hm4, hou⟩
       have H4 := hid (And.intro hO4 (And.intro hT4 (And.intro hR4 (And.intro hd4 (And.intro hm4 hou)))))
       clear hO4 hT4 hR4 hd4 hm4 hou HTk))
  obtain ⟨hO4, hT4, hR4, hd4, hm4, hou⟩ := H4.out
  have hX4 : w4.heap[w.heap.size]? = some (.cells (row 22 m) 33 (0, 0)) := (hO4.block _ HS.out.2.1).trans HX3.out.1
  have hs4 : W0.heap.size ≤ w4.heap.size := Nat.le_trans HX3.out.2.2 hO4.size
  have hOut : Out rs (fun k => m (11 + k)) ρ rs' := ⟨hm4, hou⟩
  have hbd : ρ.n < 2147483648 ∧ (ρ.E (kl m)).length < 2147483647 := by
    rcases hou with ⟨i, hi, h1, h2⟩ | ⟨h1, h2, h3⟩
    · have := hrn ρ (h1 ▸ List.getElem_mem hi)
      exact ⟨this.1, this.2 _⟩
    · rw [h3]; exact ⟨by show (0 : Nat) < _; omega, by show ([] : List En).length < _; simp⟩
  have hrl' : rs'.length < 2147483647 := by
    rcases hou with ⟨i, hi, h1, h2⟩ | ⟨h1, h2, h3⟩
    · rw [h2, List.length_eraseIdx_of_lt hi]; omega
    · rw [h1]; omega
  have HDr := hid (wdrop_any w4 ρ m id hR4 hw (hex ρ rs' hOut) hbd.2 hbd.1)
  have hrm : w4.rangeAt w.heap.size 0 (row 11 m).toList := range_of fun i hi => by
    rw [row_size] at hi
    rw [Nat.zero_add, cell_of_row _ _ _ _ _ _ hX4, row_at 22 _ _ (by omega), row_at 11 _ _ hi]
  have HPb : Hid (∀ w5, DrP S' o4 w4 ρ m id (.returned (.tuple #[])) w5 → Calls Tryd.prog 21 #[pv g, pv ρ.p] w5 fun r w6 => r = .returned (.tuple #[]) ∧ TdP S w g ad bm nm Gm rs m id (.returned (.bool true)) w6) := fun w5 hP => by
    obtain ⟨-, hO5, v5, t, hR5, htop⟩ := hP
    have hT5 := hT4.rowDrop hO5 hd4
    · have hf5 : Fresh S' w5 := HS.out.2.2 w5 (Nat.le_trans hs4 hO5.size)
      refine (putBack_any w5 g ad bm _ _ vr4 rs' _ hT5 hR5 hd4 hf5 hrl').mono ?_
      rintro r w6 ⟨rfl, hO6, vr6, o6, hT6⟩
      have hO5' : Only S w w5 := (HX3.out.2.1.trans (hO4.mono HS.out.1)).trans (hO5.mono fun b hb => by
        rcases hb with hb | hb
        · exact HS.out.1 b hb.1
        · exact HS.out.1 b (HS.out.2.2 w4 hs4 b hb))
      exact ⟨rfl, rfl, hO5'.trans (hO6.mono HS.out.1), o6, vr6, ρ, rs', v5, t, hOut, htop, _, rfl, hR5.zero, hT6.carry fun b _ hS _ => ⟨HS.out.1 b hS, rfl, rfl⟩⟩
  clear hO4 hT4 hR4 hd4 hm4 hou H4 hX4 hs4 hbd hrl' hOut hrn hex
  go_wp2_with (first
    | (refine ldMid 31 (.tmp 31) rfl rfl w.heap.size 0 rfl (row 11 m) _ Tryd.underlying31 rfl (sizeH _) hrm ?_)
    | (go_at_call 23; refine (HDr.out).mono ?_; rintro e w5 hP5
       obtain ⟨rfl, hq5⟩ := hP5
       have HP5 := hid (HPb.out w5 ⟨rfl, hq5⟩)
       clear hq5 HDr HPb)
    | (go_at_call 21; refine (HP5.out).mono ?_; rintro e w6 ⟨rfl, hq6⟩; have HF := hid hq6; clear hq6 HP5))
  go_ret
  exact HF.out
end Go.Proofs.YtimenbkfkdpdcaaDoor
