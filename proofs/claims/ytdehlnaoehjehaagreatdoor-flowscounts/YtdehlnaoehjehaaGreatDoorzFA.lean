/-
  Proved here: Drop of a table of package tuples. Conditions: fewer than 2 to 31 rows, entries and keys; a rule that is there has its entry in its row.
-/
/-
  Proved here: what holds of a table's rules and rows holds behind Drop (plain). No condition.
-/
/-
  Proved here: Drop of a table by its rules (Tbl). Conditions: the widths' table holds its numbers; fewer than 2 to 31 were added.
-/
/-
  Proved here: rules with their counts as data; how lists of them, of copies and of actions lie in memory, and that they stay as long as their blocks do. No condition.
-/
import Derived.Test.YtdehlnaoehjehaaGreatDoorzWD
import Derived.Test.YtdehlnaoehjehaaGreatDoorzTA
import Derived.Test.YtdehlnaoehjehaaGreatDoorzDF
namespace Go.Proofs.YtdehlnaoehjehaaGreatDoor
set_option maxRecDepth 100000
open Go.RowKit Go.Maps

set_option maxRecDepth 100000 in
theorem zeroM (w : World) : (zeroValue 32).run Tryz.prog w = .ok (mv zf) w := by
  have e : mv zf = .agg #[.int .u64 0, .int .u64 0, .int .u64 0, .int .u64 0, .int .u64 0, .int .u64 0, .int .u64 0, .int .u64 0, .int .u64 0, .int .u64 0, .int .u64 0, .int .u64 0, .int .u64 0, .int .u64 0, .int .u64 0, .int .u64 0, .int .u64 0, .int .u64 0, .int .u64 0, .int .u64 0, .int .u64 0, .int .u64 0] := by kernel_rfl
  rw [e]; simp [go_sem]
set_option maxHeartbeats 1600000 in
set_option maxRecDepth 100000 in
theorem tdrop_no {S : Nat → Prop} {o : Nat → Tag} (w : World) (g : Nat) (ad : Int) (bm nm : Nat) (Gm : Lit → Option Value) (vr : Value) (rs : List Ro) (id : Int) (h : TabM S o w g ad bm nm Gm vr rs) (hid' : (Lit.int .i64 id).wf = true) (hn : Gm (.int .i64 id) = none) :
    Calls Tryz.prog 123 #[pv g, .int .i64 id] w fun e w' => e = .returned (.bool false) ∧ Below w.heap.size w w' := by
  obtain ⟨t0, t1, t2, t3⟩ := three_cells h.hg
  have hlk : (Instr.lookup 212 (.map (some bm)) (.int .i64 id) true).run Tryz.prog w = .ok (.tuple #[mv zf, .bool false]) w := by
    have := h.mm.look_ok lawI Tryz.underlying212 (zeroM w) (key_i hid')
    rw [hn] at this; exact this
  have HL : Hid (Below w.heap.size w (w.alloc (.cells (row 22 zf) 32))) := (Below.refl _ _).alloc (Nat.le_refl _) _
  have hone : (row 22 zf).all (·.oneCell') = true := row_one _ _
  clear h hn
  go_enter Tryz.func123, Tryz.ntmps123
  go_wp2_with (refine stNew 32 (.tmp 5) (.tmp 17) rfl rfl w 32 _ (row 22 zf) rfl rfl rfl (size26 zf) (by rw [row_size]; rfl) hone ?_)
  go_ret
  exact ⟨rfl, HL.out⟩
set_option maxRecDepth 100000 in
theorem RowM.zero {S : Nat → Prop} {o : Nat → Tag} {w : World} {ρ : Ro} (h : RowM S o w ρ) : ρ.n = 0 ↔ ∀ l, ρ.E l = [] := by
  constructor
  · intro e l
    have hm := h.mp
    rw [e] at hm
    rcases h.hit l with ⟨_, h2⟩ | ⟨v, h1, _⟩
    · exact h2
    · rw [hm.empty l] at h1; cases h1
  · intro hE
    refine h.mp.none_zero lawH fun l => ?_
    rcases h.hit l with ⟨h1, _⟩ | ⟨v, _, h2, _⟩
    · exact h1
    · exact absurd (hE l) h2
set_option maxRecDepth 100000 in
theorem TabM.rowDrop {S : Nat → Prop} {o : Nat → Tag} {w w' : World} {g : Nat} {ad : Int} {bm nm : Nat} {Gm : Lit → Option Value} {vr : Value} {rs : List Ro} {p : Nat} (h : TabM S o w g ad bm nm Gm vr rs) (hO : Only (fun b => (S b ∧ Tg p (o b)) ∨ w.heap.size ≤ b) w w') (hd : ∀ σ ∈ rs, σ.p ≠ p) : TabM S o w' g ad bm nm Gm vr rs := by
  refine h.carry fun b hb hS hT => ⟨hS, rfl, hO.block b fun e => ?_⟩
  rcases e with e | e
  · rcases hT with h1 | h1 | h1 | ⟨σ, hσ, h1⟩
    · exact e.2.tag.1 h1
    · exact e.2.tag.2.1 h1
    · exact e.2.tag.2.2 h1
    · exact hd σ hσ (h1.inj e.2)
  · omega
/-- What Drop leaves of a rule that was there. -/
def TdP (S : Nat → Prop) (w : World) (g : Nat) (ad : Int) (bm nm : Nat) (Gm : Lit → Option Value) (rs : List Ro) (m : Nat → Int) (id : Int) (e : Ending) (w' : World) : Prop :=
  e = .returned (.bool true) ∧ Only S w w' ∧ ∃ o' vr' ρ rs' v t, Out rs (fun k => m (11 + k)) ρ rs' ∧ (∀ l e es, updE ρ.E (kl m) (fl (ρ.E (kl m)) id) l = e :: es → e.r ≤ t) ∧ ∃ n', n' = (if (fl (ρ.E (kl m)) id).isEmpty then ρ.n - 1 else ρ.n) ∧ (n' = 0 ↔ ∀ l, updE ρ.E (kl m) (fl (ρ.E (kl m)) id) l = []) ∧
    TabM S o' w' g ad bm (nm - 1) (updL Gm (.int .i64 id) none) vr' (if n' = 0 then rs' else placeR rs' (dropRo ρ m (fl (ρ.E (kl m)) id) v n' t))
set_option maxHeartbeats 3200000 in
set_option maxRecDepth 100000 in
theorem tdrop_ok {S : Nat → Prop} {o : Nat → Tag} (w : World) (g : Nat) (ad : Int) (bm nm : Nat) (Gm : Lit → Option Value) (vr : Value) (rs : List Ro) (m : Nat → Int) (id : Int) (h : TabM S o w g ad bm nm Gm vr rs) (hf : Fresh S w) (hid' : (Lit.int .i64 id).wf = true) (hn : Gm (.int .i64 id) = some (mv m)) (hw : Wf m)
    (hex : ∀ ρ rs', Out rs (fun k => m (11 + k)) ρ rs' → ρ.E (kl m) ≠ []) (hrl : rs.length < 2147483646) (hrn : ∀ ρ ∈ rs, ρ.n < 2147483648 ∧ ∀ l, (ρ.E l).length < 2147483647) :
    Calls Tryz.prog 123 #[pv g, .int .i64 id] w (TdP S w g ad bm nm Gm rs m id) := by
  obtain ⟨t0, t1, t2, t3⟩ := three_cells h.hg
  have hgl := (Array.getElem?_eq_some_iff.1 h.hg).1
  have hlk : (Instr.lookup 212 (.map (some bm)) (.int .i64 id) true).run Tryz.prog w = .ok (.tuple #[mv m, .bool true]) w := by
    have := h.mm.look_ok lawI Tryz.underlying212 (zeroM w) (key_i hid')
    rw [hn] at this; exact this
  have hone : (row 22 m).all (·.oneCell') = true := row_one _ _
  obtain ⟨W0, hW0⟩ : ∃ W0, W0 = w.alloc (.cells (row 22 m) 32) := ⟨_, rfl⟩
  have hB0 : Below w.heap.size w W0 := by rw [hW0]; exact (Below.refl _ _).alloc (Nat.le_refl _) _
  have hs0 : W0.heap.size = w.heap.size + 1 := by rw [hW0]; simp
  have hG0 : W0.heap[w.heap.size]? = some (.cells (row 22 m) 32 (0, 0)) := by rw [hW0]; exact heap_alloc_new _ _
  obtain ⟨S', hS'⟩ : ∃ S' : Nat → Prop, S' = fun b => S b ∧ b ≠ w.heap.size := ⟨_, rfl⟩
  have hSS : ∀ b, S' b → S b := fun b hb => by rw [hS'] at hb; exact hb.1
  have hSb : ¬ S' w.heap.size := by rw [hS']; exact fun h => h.2 rfl
  have hSf : ∀ W : World, W0.heap.size ≤ W.heap.size → Fresh S' W := fun W hW b hb => by rw [hS']; exact ⟨hf b (by omega), by omega⟩
  have hT0 : TabM S' o W0 g ad bm nm Gm vr rs := h.carry fun b hb1 hS _ => ⟨by rw [hS']; exact ⟨hS, by omega⟩, rfl, hB0.block b hb1⟩
  obtain ⟨y0, y1, -, -⟩ := three_cells hT0.hg
  obtain ⟨w3, hr3, hM3, hT3⟩ := hT0.mm.drop lawI Tryz.underlying212 (key_i hid') 0
  rw [hn] at hM3
  have hdel : ∀ ty, (Builtin.delete_ #[212, 3] ty #[.map (some bm), .int .i64 id]).run Tryz.prog W0 = .ok (.tuple #[]) w3 := fun ty => hr3
  have hT3' : TabM S' o w3 g ad bm (nm - 1) (updL Gm (.int .i64 id) none) vr rs := hT0.setMat hT3 hM3
  have hbmw : w.heap.size ≠ bm := fun e => hSb (e ▸ hT0.sm)
  have hX3 : w3.heap[w.heap.size]? = some (.cells (row 22 m) 32 (0, 0)) := (hT3.block _ hbmw).trans hG0
  have hO3 : Only S w w3 := (Only.of hB0 hf).trans ⟨hT3.os, hT3.tape, hT3.output, Nat.le_of_eq hT3.size.symm, fun b hb => hT3.block b fun e => hb (hSS b (e ▸ hT0.sm))⟩
  have hs3 : W0.heap.size ≤ w3.heap.size := Nat.le_of_eq hT3.size.symm
  have HTk := hid (takeOut_any w3 g ad bm _ _ vr rs (fun k => m (11 + k)) hT3' (hSf w3 hs3) (fun k => hw (11 + k)) (by omega))
  have HRk : Hid (w3.rangeAt w.heap.size 11 (row 11 fun k => m (11 + k)).toList) := range_mask hX3
  have HX3 := hid (And.intro hX3 (And.intro hO3 hs3))
  have HS := hid (And.intro hSS (And.intro hSb hSf))
  have HW0 := hid hW0
  clear h hf hn hB0 hG0 hS' hSS hSb hSf hT0 hr3 hM3 hT3 hT3' hbmw hX3 hO3 hs3 hW0 t0 t2
  go_enter Tryz.func123, Tryz.ntmps123
  go_upto_region 4 with (refine stNew 32 (.tmp 5) (.tmp 17) rfl rfl w 32 _ (row 22 m) rfl rfl rfl (size26 m) (by rw [row_size]; rfl) hone ?_)
  rw [← HW0.out]
  clear HW0
  go_upto_region 8 with (first
    | (refine ldMid 30 (.tmp 27) rfl rfl w.heap.size 11 rfl (row 11 fun k => m (11 + k)) _ Tryz.underlying30 rfl (sizeH _) HRk.out ?_)
    | (go_at_call 153; refine (HTk.out).mono ?_; rintro e w4 ⟨ρ, rs', vr4, o4, rfl, hO4, hT4, hR4, hd4, hm4, hou⟩
       have H4 := hid (And.intro hO4 (And.intro hT4 (And.intro hR4 (And.intro hd4 (And.intro hm4 hou)))))
       clear hO4 hT4 hR4 hd4 hm4 hou HTk))
  obtain ⟨hO4, hT4, hR4, hd4, hm4, hou⟩ := H4.out
  have hX4 : w4.heap[w.heap.size]? = some (.cells (row 22 m) 32 (0, 0)) := (hO4.block _ HS.out.2.1).trans HX3.out.1
  have hs4 : W0.heap.size ≤ w4.heap.size := Nat.le_trans HX3.out.2.2 hO4.size
  have hOut : Out rs (fun k => m (11 + k)) ρ rs' := ⟨hm4, hou⟩
  have hbd : ρ.n < 2147483648 ∧ (ρ.E (kl m)).length < 2147483647 := by
    rcases hou with ⟨i, hi, h1, h2⟩ | ⟨h1, h2, h3⟩
    · have := hrn ρ (h1 ▸ List.getElem_mem hi)
      exact ⟨this.1, this.2 _⟩
    · rw [h3]; exact ⟨by show (0 : Nat) < _; omega, by show ([] : List En).length < _; simp⟩
  have hrl' : rs'.length < 2147483647 := by
    rcases hou with ⟨i, hi, h1, h2⟩ | ⟨h1, h2, h3⟩
    · rw [h2, List.length_eraseIdx_of_lt hi]; omega
    · rw [h1]; omega
  have HDr := hid (wdrop_any w4 ρ m id hR4 hw (hex ρ rs' hOut) hbd.2 hbd.1)
  have hrm : w4.rangeAt w.heap.size 0 (row 11 m).toList := range_of fun i hi => by
    rw [row_size] at hi
    rw [Nat.zero_add, cell_of_row _ _ _ _ _ _ hX4, row_at 22 _ _ (by omega), row_at 11 _ _ hi]
  have HPb : Hid (∀ w5, DrP S' o4 w4 ρ m id (.returned (.tuple #[])) w5 → Calls Tryz.prog 155 #[pv g, pv ρ.p] w5 fun r w6 => r = .returned (.tuple #[]) ∧ TdP S w g ad bm nm Gm rs m id (.returned (.bool true)) w6) := fun w5 hP => by
    obtain ⟨-, hO5, v5, t, hR5, htop⟩ := hP
    have hT5 := hT4.rowDrop hO5 hd4
    · have hf5 : Fresh S' w5 := HS.out.2.2 w5 (Nat.le_trans hs4 hO5.size)
      refine (putBack_any w5 g ad bm _ _ vr4 rs' _ hT5 hR5 hd4 hf5 hrl').mono ?_
      rintro r w6 ⟨rfl, hO6, vr6, o6, hT6⟩
      have hO5' : Only S w w5 := (HX3.out.2.1.trans (hO4.mono HS.out.1)).trans (hO5.mono fun b hb => by
        rcases hb with hb | hb
        · exact HS.out.1 b hb.1
        · exact HS.out.1 b (HS.out.2.2 w4 hs4 b hb))
      exact ⟨rfl, rfl, hO5'.trans (hO6.mono HS.out.1), o6, vr6, ρ, rs', v5, t, hOut, htop, _, rfl, hR5.zero, hT6.carry fun b _ hS _ => ⟨HS.out.1 b hS, rfl, rfl⟩⟩
  clear hO4 hT4 hR4 hd4 hm4 hou H4 hX4 hs4 hbd hrl' hOut hrn hex
  go_wp2_with (first
    | (refine ldMid 30 (.tmp 31) rfl rfl w.heap.size 0 rfl (row 11 m) _ Tryz.underlying30 rfl (sizeH _) hrm ?_)
    | (go_at_call 156; refine (HDr.out).mono ?_; rintro e w5 hP5
       obtain ⟨rfl, hq5⟩ := hP5
       have HP5 := hid (HPb.out w5 ⟨rfl, hq5⟩)
       clear hq5 HDr HPb)
    | (go_at_call 155; refine (HP5.out).mono ?_; rintro e w6 ⟨rfl, hq6⟩; have HF := hid hq6; clear hq6 HP5))
  go_ret
  exact HF.out
end Go.Proofs.YtdehlnaoehjehaaGreatDoor
namespace Go.Proofs.YtdehlnaoehjehaaGreatDoor
set_option maxRecDepth 100000
open Go.RowKit

/-- The rules of other numbers. -/
def rmT (T : List Ru) (id : Int) : List Ru := T.filter fun u => !(u.k == id)
set_option maxRecDepth 100000 in
theorem mem_rmT {T : List Ru} {id : Int} {u : Ru} : u ∈ rmT T id ↔ u ∈ T ∧ u.k ≠ id := by simp [rmT]
set_option maxRecDepth 100000 in
theorem mem_fl {l : List En} {id : Int} {e : En} : e ∈ fl l id ↔ e ∈ l ∧ e.k ≠ id := by simp [fl]
set_option maxRecDepth 100000 in
theorem rmT_none {T : List Ru} {id : Int} (h : ∀ u ∈ T, u.k ≠ id) : rmT T id = T := List.filter_eq_self.2 fun u hu => by simp [h u hu]
set_option maxRecDepth 100000 in
theorem rmT_len {id : Int} : ∀ {T : List Ru}, (T.Pairwise fun a b => a.k < b.k) → (∃ u ∈ T, u.k = id) → (rmT T id).length + 1 = T.length
  | [], _, ⟨u, hu, _⟩ => by cases hu
  | a :: T, hp, ⟨u, hu, hk⟩ => by
    obtain ⟨h1, h2⟩ := List.pairwise_cons.1 hp
    by_cases ha : a.k = id
    · have hn : ∀ v ∈ T, v.k ≠ id := fun v hv => by have := h1 v hv; omega
      have e : rmT (a :: T) id = rmT T id := by simp [rmT, ha]
      rw [e, rmT_none hn]; rfl
    · have hu' : u ∈ T := by
        rcases List.mem_cons.1 hu with rfl | hu
        · exact absurd hk ha
        · exact hu
      have e : rmT (a :: T) id = a :: rmT T id := by simp [rmT, ha]
      rw [e, List.length_cons, List.length_cons, rmT_len h2 ⟨u, hu', hk⟩]
set_option maxRecDepth 100000 in
theorem num_inj {T : List Ru} (h : T.Pairwise fun a b => a.k < b.k) {u v : Ru} (hu : u ∈ T) (hv : v ∈ T) (e : u.k = v.k) : u = v := by
  obtain ⟨i, hi, rfl⟩ := List.getElem_of_mem hu
  obtain ⟨j, hj, rfl⟩ := List.getElem_of_mem hv
  have hp := List.pairwise_iff_getElem.1 h
  rcases Nat.lt_trichotomy i j with h1 | h1 | h1
  · have := hp i j hi hj h1; omega
  · subst h1; rfl
  · have := hp j i hj hi h1; omega
set_option maxRecDepth 100000 in
theorem Inv.drop {T : List Ru} {ad : Int} {nm : Nat} {Gm : Lit → Option Value} {rs rs' : List Ro} {ρ : Ro} {u : Ru} {v : Value} {t : Int} {n' : Nat} (h : Inv T ad nm Gm rs) (hu : u ∈ T) (ho : Out rs (mkk u) ρ rs')
    (htop : ∀ l e es, updE ρ.E (kl u.m) (fl (ρ.E (kl u.m)) u.k) l = e :: es → e.r ≤ t) (hn : n' = (if (fl (ρ.E (kl u.m)) u.k).isEmpty then ρ.n - 1 else ρ.n)) (hz : n' = 0 ↔ ∀ l, updE ρ.E (kl u.m) (fl (ρ.E (kl u.m)) u.k) l = []) :
    Inv (rmT T u.k) ad (nm - 1) (updL Gm (.int .i64 u.k) none) (if n' = 0 then rs' else placeR rs' (dropRo ρ u.m (fl (ρ.E (kl u.m)) u.k) v n' t)) := by
  obtain ⟨hm, ho⟩ := ho
  have hmask : eqR 11 ρ.mask (mkk u) = true := eqR_iff.2 hm
  obtain ⟨i, hi, h1, h2⟩ : ∃ i, ∃ hi : i < rs.length, rs[i] = ρ ∧ rs' = rs.eraseIdx i := by
    rcases ho with ho | ⟨_, h2, _⟩
    · exact ho
    · obtain ⟨σ, hσ, h5⟩ := h.has u hu
      rw [h2 σ hσ] at h5; cases h5
  have hρ : ρ ∈ rs := h1 ▸ List.getElem_mem hi
  have hsub : ∀ σ ∈ rs', σ ∈ rs := fun σ hσ => by rw [h2] at hσ; exact List.mem_of_mem_eraseIdx hσ
  have hoth : ∀ σ ∈ rs', eqR 11 σ.mask ρ.mask = false := fun σ hσ => by
    rw [h2] at hσ
    obtain ⟨j, hj, rfl⟩ := List.getElem_of_mem hσ
    rw [List.length_eraseIdx_of_lt hi] at hj
    rw [List.getElem_eraseIdx]
    have hp := List.pairwise_iff_getElem.1 h.apart
    split
    · rename_i hji
      rw [← h1]
      exact hp j i (by omega) hi hji
    · rename_i hji
      rw [← h1, eqR_symm]
      exact hp i (j + 1) hi (by omega) (by omega)
  have hrs : ∀ σ ∈ rs, σ = ρ ∨ σ ∈ rs' := fun σ hσ => by
    obtain ⟨j, hj, rfl⟩ := List.getElem_of_mem hσ
    by_cases hji : j = i
    · subst hji; exact Or.inl h1
    · right
      rw [h2, List.mem_eraseIdx_iff_getElem]
      exact ⟨j, hj, hji, rfl⟩
  have hsort' : rs'.Pairwise fun a b => b.top ≤ a.top := by rw [h2]; exact h.sort.eraseIdx i
  have hap' : rs'.Pairwise fun a b => eqR 11 a.mask b.mask = false := by rw [h2]; exact h.apart.eraseIdx i
  have hlen' : rs'.length + 1 = rs.length := by rw [h2, List.length_eraseIdx_of_lt hi]; omega
  obtain ⟨E', hE'⟩ : ∃ E', E' = updE ρ.E (kl u.m) (fl (ρ.E (kl u.m)) u.k) := ⟨_, rfl⟩
  have hE : ∀ l e, e ∈ E' l ↔ e ∈ ρ.E l ∧ (l = kl u.m → e.k ≠ u.k) := fun l e => by
    rw [hE']
    by_cases hl : l = kl u.m
    · subst hl; rw [updE_same, mem_fl]; simp
    · rw [updE_other _ _ hl]; simp [hl]
  have hmem : ∀ l e, e ∈ E' l ↔ ∃ w ∈ rmT T u.k, eqR 11 ρ.mask (mkk w) = true ∧ l = kl w.m ∧ e = ⟨w.r, w.k⟩ := fun l e => by
    rw [hE, h.mem ρ hρ]
    constructor
    · rintro ⟨⟨w, hw, h3, h4, h5⟩, h6⟩
      refine ⟨w, mem_rmT.2 ⟨hw, fun hk => ?_⟩, h3, h4, h5⟩
      have := num_inj h.num hw hu hk
      subst this
      exact h6 h4 (by rw [h5])
    · rintro ⟨w, hw, h3, h4, h5⟩
      exact ⟨⟨w, (mem_rmT.1 hw).1, h3, h4, h5⟩, fun _ => by rw [h5]; exact (mem_rmT.1 hw).2⟩
  have hord : ∀ l, (E' l).Pairwise fun a b => ahd a b = true := fun l => by
    rw [hE']
    by_cases hl : l = kl u.m
    · subst hl; rw [updE_same]; exact (h.ord ρ hρ _).filter _
    · rw [updE_other _ _ hl]; exact h.ord ρ hρ l
  have htp : ∀ l e, e ∈ E' l → e.r ≤ t := fun l e he => by
    have hp := hord l
    cases hEl : E' l with
    | nil => rw [hEl] at he; cases he
    | cons e0 es =>
      have h0 : e0.r ≤ t := htop l e0 es (by rw [← hE']; exact hEl)
      rw [hEl] at he hp
      rcases List.mem_cons.1 he with rfl | he
      · exact h0
      · have := ahd_iff.1 ((List.pairwise_cons.1 hp).1 e he)
        omega
  have hlenE : ∀ l, ((E' l).length : Int) ≤ ad := fun l => by
    have hl0 := (h.len.2 ρ hρ).2 l
    rw [hE']
    by_cases hl : l = kl u.m
    · subst hl
      rw [updE_same]
      have := List.length_filter_le (fun e : En => !(e.k == u.k)) (ρ.E (kl u.m))
      unfold fl; omega
    · rw [updE_other _ _ hl]; exact hl0
  have hnot : ∀ σ ∈ rs', ∀ w ∈ T, eqR 11 σ.mask (mkk w) = true → w.k ≠ u.k := fun σ hσ w hw h3 hk => by
    have := num_inj h.num hw hu hk
    subst this
    have h4 := hoth σ hσ
    rw [eqR_trans h3 (eqR_symm ▸ hmask)] at h4; cases h4
  rw [← hE'] at hz
  -- the rows that are left
  have hmemR : ∀ σ, σ ∈ (if n' = 0 then rs' else placeR rs' (dropRo ρ u.m (fl (ρ.E (kl u.m)) u.k) v n' t)) → (n' ≠ 0 ∧ σ = dropRo ρ u.m (fl (ρ.E (kl u.m)) u.k) v n' t) ∨ σ ∈ rs' := fun σ hσ => by
    by_cases h0 : n' = 0
    · rw [if_pos h0] at hσ; exact Or.inr hσ
    · rw [if_neg h0] at hσ
      rcases mem_placeR.1 hσ with rfl | hσ
      · exact Or.inl ⟨h0, rfl⟩
      · exact Or.inr hσ
  have hEd : ∀ l, (dropRo ρ u.m (fl (ρ.E (kl u.m)) u.k) v n' t).E l = E' l := fun l => by rw [hE']; rfl
  refine ⟨?_, ?_, ?_, ?_, ?_, ?_, ?_, ?_, ?_, h.ad0, ?_, ?_, ?_, ?_⟩
  · intro σ hσ l e
    rcases hmemR σ hσ with ⟨_, rfl⟩ | hσ
    · rw [hEd]; exact hmem l e
    · rw [h.mem σ (hsub σ hσ)]
      constructor
      · rintro ⟨w, hw, h3, h4⟩
        exact ⟨w, mem_rmT.2 ⟨hw, hnot σ hσ w hw h3⟩, h3, h4⟩
      · rintro ⟨w, hw, h3, h4⟩
        exact ⟨w, (mem_rmT.1 hw).1, h3, h4⟩
  · intro w hw
    obtain ⟨σ, hσ, h3⟩ := h.has w (mem_rmT.1 hw).1
    rcases hrs σ hσ with rfl | hσ
    · have h0 : n' ≠ 0 := fun h0 => by
        have := hz.1 h0 (kl w.m)
        have h4 := (hmem (kl w.m) ⟨w.r, w.k⟩).2 ⟨w, hw, h3, rfl, rfl⟩
        rw [this] at h4; cases h4
      rw [if_neg h0]
      exact ⟨_, mem_placeR.2 (Or.inl rfl), h3⟩
    · refine ⟨σ, ?_, h3⟩
      split
      · exact hσ
      · exact mem_placeR.2 (Or.inr hσ)
  · split
    · exact hap'
    · refine pair_put hap' (fun y hy => hoth y (List.mem_of_mem_take hy)) fun y hy => ?_
      show eqR 11 ρ.mask y.mask = false
      rw [eqR_symm]
      exact hoth y (List.mem_of_mem_drop hy)
  · intro σ hσ
    rcases hmemR σ hσ with ⟨h0, rfl⟩ | hσ
    · have : ∃ l, E' l ≠ [] := Classical.byContradiction fun hno => h0 (hz.2 fun l => Classical.byContradiction fun hl => hno ⟨l, hl⟩)
      obtain ⟨l, hl⟩ := this
      obtain ⟨e, he⟩ := List.exists_mem_of_ne_nil _ hl
      obtain ⟨w, hw, h3, -⟩ := (hmem l e).1 he
      exact ⟨w, hw, h3⟩
    · obtain ⟨w, hw, h3⟩ := h.som σ (hsub σ hσ)
      exact ⟨w, mem_rmT.2 ⟨hw, hnot σ hσ w hw h3⟩, h3⟩
  · split
    · exact hsort'
    · exact placeR_sort hsort'
  · intro σ hσ l e he
    rcases hmemR σ hσ with ⟨_, rfl⟩ | hσ
    · rw [hEd] at he; exact htp l e he
    · exact h.top σ (hsub σ hσ) l e he
  · intro σ hσ l
    rcases hmemR σ hσ with ⟨_, rfl⟩ | hσ
    · rw [hEd]; exact hord l
    · exact h.ord σ (hsub σ hσ) l
  · exact h.num.filter _
  · intro w hw; exact h.bd w (mem_rmT.1 hw).1
  · intro w hw; exact h.ok w (mem_rmT.1 hw).1
  · have := rmT_len h.num ⟨u, hu, rfl⟩
    rw [h.cnt]; omega
  · intro k
    by_cases hkk : k = u.k
    · subst hkk
      rw [updL_same]
      exact ⟨fun w hw e => absurd e (mem_rmT.1 hw).2, fun _ => rfl⟩
    · have hne : (Lit.int .i64 k : Lit) ≠ .int .i64 u.k := fun e => hkk (by simpa using e)
      rw [updL_other _ _ hne]
      refine ⟨fun w hw e => (h.mat k).1 w (mem_rmT.1 hw).1 e, fun hno => (h.mat k).2 fun w hw e => ?_⟩
      exact hno w (mem_rmT.2 ⟨hw, by rw [e]; exact hkk⟩) e
  · have hl := h.len
    refine ⟨?_, fun σ hσ => ?_⟩
    · split
      · omega
      · rw [placeR_len]; omega
    · rcases hmemR σ hσ with ⟨_, rfl⟩ | hσ
      · refine ⟨?_, fun l => by rw [hEd]; exact hlenE l⟩
        show (n' : Int) ≤ ad
        have := (hl.2 ρ hρ).1
        rw [hn]
        split <;> omega
      · exact hl.2 σ (hsub σ hσ)
end Go.Proofs.YtdehlnaoehjehaaGreatDoor
namespace Go.Proofs.YtdehlnaoehjehaaGreatDoor
set_option maxRecDepth 100000
open Go.RowKit

set_option maxRecDepth 100000 in
theorem tDrop_any {S : Nat → Prop} (w : World) (v : Value) (T : List Ru) (ad id : Int) (h : Tbl S w v T ad) (hf : Fresh S w) (hid' : (Lit.int .i64 id).wf = true) (ha : ad < 2147483640) :
    Calls Tryz.prog 123 #[v, .int .i64 id] w fun e w' => e = .returned (.bool (T.any fun u => u.k == id)) ∧ Only S w w' ∧ Tbl S w' v (rmT T id) ad := by
  have h0 := h
  obtain ⟨g, o, bm, nm, Gm, vr, rs, rfl, hT, hI⟩ := h0
  have hl := hI.len
  by_cases hx : ∃ u ∈ T, u.k = id
  · obtain ⟨u, hu, rfl⟩ := hx
    have hany : (T.any fun x => x.k == u.k) = true := List.any_eq_true.2 ⟨u, hu, by simp⟩
    rw [hany]
    have hex : ∀ ρ rs', Out rs (fun k => u.m (11 + k)) ρ rs' → ρ.E (kl u.m) ≠ [] := fun ρ rs' ho => by
      obtain ⟨hm, ho⟩ := ho
      rcases ho with ⟨i, hi, h1, _⟩ | ⟨_, h2, _⟩
      · have := (hI.mem ρ (h1 ▸ List.getElem_mem hi) (kl u.m) ⟨u.r, u.k⟩).2 ⟨u, hu, eqR_iff.2 hm, rfl, rfl⟩
        exact fun e => by rw [e] at this; cases this
      · obtain ⟨σ, hσ, h5⟩ := hI.has u hu
        have h6 : eqR 11 σ.mask (fun k => u.m (11 + k)) = false := h2 σ hσ
        rw [show eqR 11 σ.mask (fun k => u.m (11 + k)) = true from h5] at h6; cases h6
    refine (tdrop_ok w g ad bm nm Gm vr rs u.m u.k hT hf hid' ((hI.mat u.k).1 u hu rfl) (hI.wf hu) hex (by omega) (fun ρ hρ => ⟨by have := (hl.2 ρ hρ).1; omega, fun l => by have := (hl.2 ρ hρ).2 l; omega⟩)).mono ?_
    rintro e w' ⟨rfl, hO, o', vr', ρ, rs', v5, t, hou, htop, n', hn', hz, hT'⟩
    exact ⟨rfl, hO, g, o', bm, _, _, vr', _, rfl, hT', hI.drop hu hou htop hn' hz⟩
  · have hno : ∀ u ∈ T, u.k ≠ id := fun u hu e => hx ⟨u, hu, e⟩
    have hany : (T.any fun x => x.k == id) = false := by
      rw [List.any_eq_false]
      intro u hu; simp [hno u hu]
    rw [hany, rmT_none hno]
    refine (tdrop_no w g ad bm nm Gm vr rs id hT hid' ((hI.mat id).2 hno)).mono ?_
    rintro e w' ⟨rfl, hb⟩
    exact ⟨rfl, Only.of hb hf, h.carry fun b hb1 hS => ⟨hS, hb.block b hb1⟩⟩
end Go.Proofs.YtdehlnaoehjehaaGreatDoor
namespace Go.Proofs.YtdehlnaoehjehaaGreatDoor
set_option maxRecDepth 100000
open Go.RowKit

structure Ac where
  dw : Int
  fd : Int
  n : Int
structure Rl where
  rk : Int
  mt : Nat → Int
  cp : List (List Ac)
  ck : Int
structure Hel where
  r : Rl
  pk : Int
  bt : Int
def InB (x : Int) : Prop := 0 ≤ x ∧ x < 18446744073709551616
def I64 (x : Int) : Prop := -9223372036854775808 ≤ x ∧ x < 9223372036854775808
def Ac.Fit (a : Ac) : Prop := (-128 ≤ a.dw ∧ a.dw < 128) ∧ (-128 ≤ a.fd ∧ a.fd < 128) ∧ InB a.n
/-- Copies that a slice may hold. -/
def Sml (c : List (List Ac)) : Prop := c.length * 24 ≤ 140737488355328 ∧ ∀ l ∈ c, l.length * 16 ≤ 140737488355328
structure Rl.Fit (r : Rl) : Prop where
  rk : I64 r.rk
  mt : Wf r.mt
  ck : InB r.ck
  sm : Sml r.cp
def zRl : Rl := ⟨0, zf, [], 0⟩

section
variable {α : Type}
/-- A slice of things of k cells each, in a block of T; R says what cells a thing has. -/
def Lst (T : Nat → Prop) (k : Nat) (R : World → (Nat → Option Value) → α → Prop) (w : World) (v : Value) (l : List α) : Prop :=
  ∃ ao cap, v = .slice ao l.length cap ∧ l.length ≤ cap ∧ l.length ≤ 140737488355328 ∧ (ao = none → cap = 0) ∧
    (l ≠ [] → ∃ b o, T b ∧ ao = some ⟨b, o, none⟩ ∧ ∀ j (hj : j < l.length), R w (fun i => w.cell? ⟨b, o + j * k + i, none⟩) l[j])
theorem Lst.carry {T T' : Nat → Prop} {k : Nat} {R R' : World → (Nat → Option Value) → α → Prop} {w w' : World} {v : Value} {l : List α} (h : Lst T k R w v l) (hc : ∀ b, b < w.heap.size → T b → T' b ∧ w'.heap[b]? = w.heap[b]?) (hS : ∀ f x, R w f x → ∃ u, f 0 = some u) (hR : ∀ f x, R w f x → R' w' f x) : Lst T' k R' w' v l := by
  obtain ⟨ao, cap, h1, h2, h3, h4, h5⟩ := h
  refine ⟨ao, cap, h1, h2, h3, h4, fun hne => ?_⟩
  obtain ⟨b, o, hb, rfl, hcl⟩ := h5 hne
  have h0 : 0 < l.length := List.length_pos_iff.2 hne
  obtain ⟨u, hu⟩ := hS _ _ (hcl 0 h0)
  have hq := hc b (cell_lt hu) hb
  refine ⟨b, o, hq.1, rfl, fun j hj => ?_⟩
  have := hR _ _ (hcl j hj)
  have e : (fun i => w'.cell? ⟨b, o + j * k + i, none⟩) = fun i => w.cell? ⟨b, o + j * k + i, none⟩ := by
    funext i; exact cell_same hq.2
  rw [e]; exact this
theorem Lst.form {T : Nat → Prop} {k : Nat} {R : World → (Nat → Option Value) → α → Prop} {w : World} {v : Value} {l : List α} (h : Lst T k R w v l) : ∃ ao cap, v = .slice ao l.length cap ∧ l.length ≤ cap := by
  obtain ⟨ao, cap, h1, h2, _⟩ := h
  exact ⟨ao, cap, h1, h2⟩
theorem Lst.len {T : Nat → Prop} {k : Nat} {R : World → (Nat → Option Value) → α → Prop} {w : World} {v : Value} {l : List α} (h : Lst T k R w v l) : l.length ≤ 140737488355328 := by
  obtain ⟨ao, cap, h1, h2, h3, _⟩ := h
  exact h3
theorem Lst.nil (T : Nat → Prop) (k : Nat) (R : World → (Nat → Option Value) → α → Prop) (w : World) : Lst T k R w nilS [] := ⟨none, 0, rfl, by simp, by simp, fun _ => rfl, fun h => absurd rfl h⟩
theorem Lst.all {T : Nat → Prop} {k : Nat} {R : World → (Nat → Option Value) → α → Prop} {P : α → Prop} {w : World} {v : Value} {l : List α} (h : Lst T k R w v l) (hP : ∀ f x, R w f x → P x) : ∀ x ∈ l, P x := by
  intro x hx
  obtain ⟨_, _, _, _, _, _, h5⟩ := h
  obtain ⟨j, hj, rfl⟩ := List.getElem_of_mem hx
  obtain ⟨b, o, _, _, hcl⟩ := h5 (fun e => by subst e; simp at hj)
  exact hP _ _ (hcl j hj)
end


def RAc : World → (Nat → Option Value) → Ac → Prop := fun _ f a => f 0 = some (.int .i8 a.dw) ∧ f 1 = some (.int .i8 a.fd) ∧ f 2 = some (.int .u64 a.n) ∧ a.Fit
abbrev Acs (T : Nat → Prop) (w : World) (v : Value) (l : List Ac) : Prop := Lst T 3 RAc w v l
def RCp (T : Nat → Prop) : World → (Nat → Option Value) → List Ac → Prop := fun w f l => ∃ u, f 0 = some u ∧ Acs T w u l
abbrev Cps (T : Nat → Prop) (w : World) (v : Value) (l : List (List Ac)) : Prop := Lst T 1 (RCp T) w v l
/-- The cells of a rule, of a held rule. -/
abbrev rlc (r : Rl) (u : Value) : Array Value := rc r.rk r.mt u r.ck
def hdc (h : Hel) (u : Value) : Array Value := rlc h.r u ++ #[.int .u64 h.pk, .int .u64 h.bt]
theorem hdc_size (h : Hel) (u : Value) : (hdc h u).size = 27 := by simp [hdc, rlc, rc_size]
theorem hdc_rl (h : Hel) (u : Value) (k : Nat) (hk : k < 25) : (hdc h u)[k]? = (rlc h.r u)[k]? := by
  unfold hdc
  rw [Array.getElem?_append_left (by rw [rc_size]; exact hk)]
theorem hdc_pk (h : Hel) (u : Value) : (hdc h u)[25]? = some (.int .u64 h.pk) := by simp [hdc, rlc, rc_size]
theorem hdc_bt (h : Hel) (u : Value) : (hdc h u)[26]? = some (.int .u64 h.bt) := by simp [hdc, rlc, rc_size]
def RHel (T : Nat → Prop) : World → (Nat → Option Value) → Hel → Prop := fun w f h => ∃ u, (∀ i, i < 27 → f i = (hdc h u)[i]?) ∧ Cps T w u h.r.cp
abbrev Hels (T : Nat → Prop) (w : World) (v : Value) (l : List Hel) : Prop := Lst T 27 (RHel T) w v l
section
variable {T T' : Nat → Prop} {w w' : World} (hc : ∀ b, b < w.heap.size → T b → T' b ∧ w'.heap[b]? = w.heap[b]?)
include hc
theorem Acs.carry {v : Value} {l : List Ac} (h : Acs T w v l) : Acs T' w' v l := Lst.carry h hc (fun _ _ h => ⟨_, h.1⟩) (fun _ _ h => h)
theorem Cps.carry {v : Value} {l : List (List Ac)} (h : Cps T w v l) : Cps T' w' v l := Lst.carry h hc (fun _ _ ⟨_, h, _⟩ => ⟨_, h⟩) (fun _ _ ⟨u, h1, h2⟩ => ⟨u, h1, Acs.carry hc h2⟩)
theorem Hels.carry {v : Value} {l : List Hel} (h : Hels T w v l) : Hels T' w' v l := Lst.carry h hc (fun _ x ⟨u, h, _⟩ => ⟨_, (h 0 (by omega)).trans ((hdc_rl x u 0 (by omega)).trans (rc_rank _ _ _ _))⟩) (fun _ _ ⟨u, h1, h2⟩ => ⟨u, h1, Cps.carry hc h2⟩)
end
end Go.Proofs.YtdehlnaoehjehaaGreatDoor
