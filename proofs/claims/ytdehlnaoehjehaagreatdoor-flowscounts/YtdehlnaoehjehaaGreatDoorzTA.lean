/-
  Proved here: Add of a table of package tuples: refused for what is no match, refused when it is full, else the row of its mask has one more. Conditions: the widths' table holds its numbers; fewer than 2 to 31 were added.
-/
import Derived.Test.YtdehlnaoehjehaaGreatDoorzPB
namespace Go.Proofs.YtdehlnaoehjehaaGreatDoor
set_option maxRecDepth 100000
open Go.RowKit

/-- A rule's cells. -/
def rc (r : Int) (m : Nat → Int) (cp : Value) (ck : Int) : Array Value := #[.int .i64 r] ++ row 22 m ++ #[cp, .int .u64 ck]
theorem rc_size (r : Int) (m : Nat → Int) (cp : Value) (ck : Int) : (rc r m cp ck).size = 25 := by simp [rc, row_size]
theorem rc_rank (r : Int) (m : Nat → Int) (cp : Value) (ck : Int) : (rc r m cp ck)[0]? = some (.int .i64 r) := by
  unfold rc
  rw [Array.append_assoc, Array.getElem?_append_left (by simp)]; rfl
theorem rc_mat (r : Int) (m : Nat → Int) (cp : Value) (ck : Int) (k : Nat) (hk : k < 22) : (rc r m cp ck)[1 + k]? = some (.int .u64 (m k)) := by
  unfold rc
  rw [Array.append_assoc, Array.getElem?_append_right (by simp), Array.getElem?_append_left (by simp [row_size]; omega)]
  rw [show 1 + k - (#[Value.int .i64 r] : Array Value).size = k by simp, row_at 22 m k hk]
/-- What Add reads of the table and of its rule. -/
structure Hr (g : Nat) (ad : Int) (bm b : Nat) (r : Int) (m : Nat → Int) (w : World) : Prop where
  c0 : w.cell? ⟨g, 0, none⟩ = some (.int .i64 ad)
  c1 : w.cell? ⟨g, 1, none⟩ = some (.map (some bm))
  cr : w.cell? ⟨b, 0, none⟩ = some (.int .i64 r)
  rm : w.rangeAt b 1 (row 22 m).toList
  rx : w.rangeAt b 1 (row 11 m).toList
  rk : w.rangeAt b 12 (row 11 fun k => m (11 + k)).toList
theorem Hr.mk' {g bm b : Nat} {ad r : Int} {m : Nat → Int} {vr cp : Value} {ck : Int} {w : World} (h : w.heap[g]? = some (.cells #[.int .i64 ad, .map (some bm), vr] 215 (0, 0))) (hb : w.heap[b]? = some (.cells (rc r m cp ck) 35 (0, 0))) : Hr g ad bm b r m w := by
  obtain ⟨t0, t1, -, -⟩ := three_cells h
  refine ⟨t0, t1, by rw [cell_of_row _ _ _ _ _ _ hb, rc_rank], range_of fun i hi => ?_, range_of fun i hi => ?_, range_of fun i hi => ?_⟩
  · rw [row_size] at hi
    rw [cell_of_row _ _ _ _ _ _ hb, rc_mat _ _ _ _ _ hi, row_at 22 _ _ hi]
  · rw [row_size] at hi
    rw [cell_of_row _ _ _ _ _ _ hb, rc_mat _ _ _ _ _ (by omega), row_at 11 _ _ hi]
  · rw [row_size] at hi
    rw [cell_of_row _ _ _ _ _ _ hb, show 12 + i = 1 + (11 + i) by omega, rc_mat _ _ _ _ _ (by omega), row_at 11 _ _ hi]
theorem TabM.setAd {S : Nat → Prop} {o : Nat → Tag} {w : World} {g : Nat} {ad : Int} {bm nm : Nat} {Gm : Lit → Option Value} {vr : Value} {rs : List Ro} (h : TabM S o w g ad bm nm Gm vr rs) (a : Int) : TabM S o (w.setCell ⟨g, 0, none⟩ (.int .i64 a)) g a bm nm Gm vr rs := by
  have sett : ∀ b, b ≠ g → (w.setCell ⟨g, 0, none⟩ (.int .i64 a)).heap[b]? = w.heap[b]? := fun b hb => heap_setCell_other w ⟨g, 0, none⟩ b _ hb
  have ng : ∀ b, o b ≠ .tab → b ≠ g := fun b h1 e => h1 (e ▸ h.og)
  exact ⟨h.sg, h.og, by rw [heap_setCell_same w g 0 _ _ _ h.hg]; rfl, h.sm, h.om, h.mm.carry (sett _ (ng _ (by rw [h.om]; simp))), h.row.carry fun b _ hS => ⟨hS, sett b (ng b (by rw [hS.2]; simp))⟩, fun ρ hρ => (h.all ρ hρ).carry fun b _ hS hT => ⟨hS, rfl, sett b (ng b hT.tag.1)⟩, h.ne⟩
theorem TabM.setMat {S : Nat → Prop} {o : Nat → Tag} {w w' : World} {g : Nat} {ad : Int} {bm nm n' : Nat} {Gm G' : Lit → Option Value} {vr : Value} {rs : List Ro} (h : TabM S o w g ad bm nm Gm vr rs) (hT : Tur w w' bm) (hM : Mp w' 3 bm n' G') : TabM S o w' g ad bm n' G' vr rs := by
  have nb : ∀ b, o b ≠ .mat → b ≠ bm := fun b h1 e => h1 (e ▸ h.om)
  exact ⟨h.sg, h.og, (hT.block g (nb g (by rw [h.og]; simp))).trans h.hg, h.sm, h.om, hM, h.row.carry fun b _ hS => ⟨hS, hT.block b (nb b (by rw [hS.2]; simp))⟩, fun ρ hρ => (h.all ρ hρ).carry fun b _ hS hT' => ⟨hS, rfl, hT.block b (nb b hT'.tag.2.1)⟩, h.ne⟩
theorem TabM.rowAdd {S : Nat → Prop} {o : Nat → Tag} {w w' : World} {g : Nat} {ad : Int} {bm nm : Nat} {Gm : Lit → Option Value} {vr : Value} {rs : List Ro} {p : Nat} {t : Tag} (h : TabM S o w g ad bm nm Gm vr rs) (hO : Only (fun b => (S b ∧ Tg p (o b)) ∨ w.heap.size ≤ b) w w') (hd : ∀ σ ∈ rs, σ.p ≠ p) : TabM S (newTag o w.heap.size t) w' g ad bm nm Gm vr rs := by
  refine h.carry fun b hb hS hT => ⟨hS, newTag_old hb, hO.block b fun e => ?_⟩
  rcases e with e | e
  · rcases hT with h1 | h1 | h1 | ⟨σ, hσ, h1⟩
    · exact e.2.tag.1 h1
    · exact e.2.tag.2.1 h1
    · exact e.2.tag.2.2 h1
    · exact hd σ hσ (h1.inj e.2)
  · omega
/-- The row of a mask is out, or new. -/
def Out (rs : List Ro) (μ : Nat → Int) (ρ : Ro) (rs' : List Ro) : Prop := (∀ k, k < 11 → ρ.mask k = μ k) ∧ ((∃ i, ∃ hi : i < rs.length, rs[i] = ρ ∧ rs' = rs.eraseIdx i) ∨ (rs' = rs ∧ (∀ σ ∈ rs, eqR 11 σ.mask μ = false) ∧ ρ = emRo ρ.p ρ.bc μ))
set_option maxHeartbeats 1600000 in
set_option maxRecDepth 100000 in
theorem tadd_bad (w : World) (g : Nat) (r : Int) (m : Nat → Int) (cp : Value) (ck : Int) (ht : Tab w) (hm : mOk m = false) :
    Calls Tryz.prog 121 #[pv g, .agg (rc r m cp ck)] w fun e w' => e = .returned (.tuple #[.int .i64 0, .int .i64 20]) ∧ Below w.heap.size w w' := by
  obtain ⟨W0, hW0⟩ : ∃ W0, W0 = w.alloc (.cells (rc r m cp ck) 35) := ⟨_, rfl⟩
  have hB0 : Below w.heap.size w W0 := by rw [hW0]; exact (Below.refl _ _).alloc (Nat.le_refl _) _
  have hG0 : W0.heap[w.heap.size]? = some (.cells (rc r m cp ck) 35 (0, 0)) := by rw [hW0]; exact heap_alloc_new _ _
  have HRm : Hid (W0.rangeAt w.heap.size 1 (row 22 m).toList) := range_of fun i hi => by
    rw [row_size] at hi
    rw [cell_of_row _ _ _ _ _ _ hG0, rc_mat _ _ _ _ _ hi, row_at 22 _ _ hi]
  have HC := hid (check_any m W0 (ht.on hB0))
  rw [chk_bad hm] at HC
  have HB0 := hid hB0
  have HW0 := hid hW0
  clear hB0 hG0 hW0 ht hm
  go_enter Tryz.func121, Tryz.ntmps121
  go_upto_region 1 with fail
  rw [← HW0.out]
  clear HW0
  go_wp2_with (first
    | (refine ldMid 32 (.tmp 11) rfl rfl w.heap.size 1 rfl (row 22 m) _ Tryz.underlying32 rfl (size26 m) HRm.out ?_)
    | (go_at_call 41; refine (HC.out).mono ?_; rintro e w1 ⟨rfl, hb1⟩; have HB1 := hid hb1; clear hb1))
  refine bodyPost_ret (results_tmp2 rfl _ _ _) rfl ?_
  exact ⟨rfl, HB0.out.trans (HB1.out.mono HB0.out.size)⟩
set_option maxHeartbeats 1600000 in
set_option maxRecDepth 100000 in
theorem tadd_full {S : Nat → Prop} {o : Nat → Tag} (w : World) (g : Nat) (ad : Int) (bm nm : Nat) (Gm : Lit → Option Value) (vr : Value) (rs : List Ro) (r : Int) (m : Nat → Int) (cp : Value) (ck : Int) (h : TabM S o w g ad bm nm Gm vr rs) (ht : Tab w) (hm : mOk m = true) (hn : 1024 ≤ nm) :
    Calls Tryz.prog 121 #[pv g, .agg (rc r m cp ck)] w fun e w' => e = .returned (.tuple #[.int .i64 0, .int .i64 4]) ∧ Below w.heap.size w w' := by
  obtain ⟨W0, hW0⟩ : ∃ W0, W0 = w.alloc (.cells (rc r m cp ck) 35) := ⟨_, rfl⟩
  have hB0 : Below w.heap.size w W0 := by rw [hW0]; exact (Below.refl _ _).alloc (Nat.le_refl _) _
  have hG0 : W0.heap[w.heap.size]? = some (.cells (rc r m cp ck) 35 (0, 0)) := by rw [hW0]; exact heap_alloc_new _ _
  have HRm : Hid (W0.rangeAt w.heap.size 1 (row 22 m).toList) := range_of fun i hi => by
    rw [row_size] at hi
    rw [cell_of_row _ _ _ _ _ _ hG0, rc_mat _ _ _ _ _ hi, row_at 22 _ _ hi]
  have HC := hid (check_any m W0 (ht.on hB0))
  rw [chk_ok hm] at HC
  have hgl := (Array.getElem?_eq_some_iff.1 h.hg).1
  have HK : Hid (∀ w1, Below W0.heap.size W0 w1 → w1.cell? ⟨g, 1, none⟩ = some (.map (some bm)) ∧ ∀ ty, (Builtin.len_ #[212] ty #[.map (some bm)]).run Tryz.prog w1 = .ok (.int .i64 (nm : Nat)) w1) := fun w1 hb => by
    have hb' : Below w.heap.size w w1 := hB0.trans (hb.mono hB0.size)
    exact ⟨(three_cells ((hb'.block g hgl).trans h.hg)).2.1, fun ty => (h.mm.carry (hb'.block _ h.mm.lt)).len Tryz.underlying212 ty⟩
  have HB0 := hid hB0
  have HW0 := hid hW0
  have hd : decide ((1024 : Int) ≤ (nm : Int)) = true := decide_eq_true (by omega)
  clear hB0 hG0 hW0 ht hm h
  go_enter Tryz.func121, Tryz.ntmps121
  go_upto_region 1 with fail
  rw [← HW0.out]
  clear HW0
  go_wp2_with (first
    | (refine ldMid 32 (.tmp 11) rfl rfl w.heap.size 1 rfl (row 22 m) _ Tryz.underlying32 rfl (size26 m) HRm.out ?_)
    | (go_at_call 41; refine (HC.out).mono ?_; rintro e w1 ⟨rfl, hb1⟩; obtain ⟨k1, k2⟩ := HK.out w1 hb1; have HB1 := hid hb1; clear hb1))
  refine bodyPost_ret (results_tmp2 rfl _ _ _) rfl ?_
  exact ⟨rfl, HB0.out.trans (HB1.out.mono HB0.out.size)⟩
/-- What Add leaves where it adds. -/
def TaP (S : Nat → Prop) (w : World) (g : Nat) (ad : Int) (bm nm : Nat) (Gm : Lit → Option Value) (rs : List Ro) (r : Int) (m : Nat → Int) (e : Ending) (w' : World) : Prop :=
  e = .returned (.tuple #[.int .i64 (ad + 1), .int .i64 0]) ∧ Only S w w' ∧ ∃ o' vr' ρ rs' v, Out rs (fun k => m (11 + k)) ρ rs' ∧ TabM S o' w' g (ad + 1) bm (if (Gm (.int .i64 (ad + 1))).isSome then nm else nm + 1) (updL Gm (.int .i64 (ad + 1)) (some (mv m))) vr' (placeR rs' (addRo ρ m ⟨r, ad + 1⟩ v))
set_option maxHeartbeats 6400000 in
set_option maxRecDepth 100000 in
theorem tadd_ok {S : Nat → Prop} {o : Nat → Tag} (w : World) (g : Nat) (ad : Int) (bm nm : Nat) (Gm : Lit → Option Value) (vr : Value) (rs : List Ro) (r : Int) (m : Nat → Int) (cp : Value) (ck : Int) (h : TabM S o w g ad bm nm Gm vr rs) (hf : Fresh S w) (ht : Tab w) (hm : mOk m = true) (hw : Wf m) (hn : nm < 1024) (ha0 : 0 ≤ ad) (ha1 : ad < 2147483646) (hrl : rs.length < 2147483646) (hrn : ∀ ρ ∈ rs, ρ.n < 2147483648 ∧ ∀ l, (ρ.E l).length < 2147483647) :
    Calls Tryz.prog 121 #[pv g, .agg (rc r m cp ck)] w fun e w' => TaP S w g ad bm nm Gm rs r m e w' := by
  obtain ⟨W0, hW0⟩ : ∃ W0, W0 = w.alloc (.cells (rc r m cp ck) 35) := ⟨_, rfl⟩
  have hB0 : Below w.heap.size w W0 := by rw [hW0]; exact (Below.refl _ _).alloc (Nat.le_refl _) _
  have hs0 : W0.heap.size = w.heap.size + 1 := by rw [hW0]; simp
  have hG0 : W0.heap[w.heap.size]? = some (.cells (rc r m cp ck) 35 (0, 0)) := by rw [hW0]; exact heap_alloc_new _ _
  have HRm : Hid (W0.rangeAt w.heap.size 1 (row 22 m).toList) := range_of fun i hi => by
    rw [row_size] at hi
    rw [cell_of_row _ _ _ _ _ _ hG0, rc_mat _ _ _ _ _ hi, row_at 22 _ _ hi]
  have HC := hid (check_any m W0 (ht.on hB0))
  rw [chk_ok hm] at HC
  have hgl := (Array.getElem?_eq_some_iff.1 h.hg).1
  obtain ⟨S', hS'⟩ : ∃ S' : Nat → Prop, S' = fun b => S b ∧ b ≠ w.heap.size := ⟨_, rfl⟩
  have hSS : ∀ b, S' b → S b := fun b hb => by rw [hS'] at hb; exact hb.1
  have hSb : ¬ S' w.heap.size := by rw [hS']; exact fun h => h.2 rfl
  have hSf : ∀ W : World, W0.heap.size ≤ W.heap.size → Fresh S' W := fun W hW b hb => by rw [hS']; exact ⟨hf b (by omega), by omega⟩
  have hadw : (Lit.int .i64 (ad + 1)).wf = true := WalkArith.wf_i64 (by omega)
  have HK1 : Hid (∀ w1, Below W0.heap.size W0 w1 → TabM S' o w1 g ad bm nm Gm vr rs ∧ w1.heap[w.heap.size]? = some (.cells (rc r m cp ck) 35 (0, 0)) ∧ (w1.cell? ⟨g, 0, none⟩ = some (.int .i64 ad) ∧ w1.cell? ⟨g, 1, none⟩ = some (.map (some bm)) ∧ w1.frozen? ⟨g, 0, none⟩ = false) ∧ (∀ ty, (Builtin.len_ #[212] ty #[.map (some bm)]).run Tryz.prog w1 = .ok (.int .i64 (nm : Nat)) w1) ∧ Only S w w1) := fun w1 hb => by
    have hb' : Below w.heap.size w w1 := hB0.trans (hb.mono hB0.size)
    have hT1 : TabM S' o w1 g ad bm nm Gm vr rs := h.carry fun b hb1 hS _ => ⟨by rw [hS']; exact ⟨hS, by omega⟩, rfl, hb'.block b hb1⟩
    obtain ⟨t0, t1, -, t3⟩ := three_cells hT1.hg
    exact ⟨hT1, (hb.block _ (by omega)).trans hG0, ⟨t0, t1, t3 0⟩, fun ty => hT1.mm.len Tryz.underlying212 ty, Only.of hb' hf⟩
  have HS := hid (And.intro hSS (And.intro hSb hSf))
  have HB0 := hid (And.intro hB0 hs0)
  have HW0 := hid hW0
  have hd : decide ((1024 : Int) ≤ (nm : Int)) = false := decide_eq_false (by omega)
  have hwrap : IntKind.i64.wrap (ad + 1) = ad + 1 := by rw [IntKind.wrap_i64]; omega
  clear hB0 hs0 hG0 hW0 ht hm h hf hS' hSS hSb hSf
  go_enter Tryz.func121, Tryz.ntmps121
  go_upto_region 1 with fail
  rw [← HW0.out]
  clear HW0
  go_upto_region 8 with (first
    | (refine ldMid 32 (.tmp 11) rfl rfl w.heap.size 1 rfl (row 22 m) _ Tryz.underlying32 rfl (size26 m) HRm.out ?_)
    | (go_at_call 41; refine (HC.out).mono ?_; rintro e w1 ⟨rfl, hb1⟩; obtain ⟨k1, k2, ⟨k3, k4, k5⟩, k6, k7⟩ := HK1.out w1 hb1; have HT1 := hid (And.intro k1 (And.intro k2 k7)); have HB1 := hid hb1; clear hb1 k1 k2 k7))
  obtain ⟨W2, hW2⟩ : ∃ W2, W2 = w1.setCell ⟨g, 0, none⟩ (.int .i64 (ad + 1)) := ⟨_, rfl⟩
  have hT2 : TabM S' o W2 g (ad + 1) bm nm Gm vr rs := by rw [hW2]; exact HT1.out.1.setAd (ad + 1)
  have hX2 : W2.heap[w.heap.size]? = some (.cells (rc r m cp ck) 35 (0, 0)) := by
    rw [hW2, heap_setCell_other w1 ⟨g, 0, none⟩ w.heap.size _ (by show w.heap.size ≠ g; omega)]; exact HT1.out.2.1
  have hO2 : Only S w W2 := by rw [hW2]; exact HT1.out.2.2.setCell (p := ⟨g, 0, none⟩) (HS.out.1 _ HT1.out.1.sg) _
  have hs2 : W0.heap.size ≤ W2.heap.size := by rw [hW2]; have := HB1.out.size; simpa using this
  rw [← hW2]
  have HR2 : Hid (Hr g (ad + 1) bm w.heap.size r m W2.drew) := Hr.mk' (vr := vr) hT2.hg hX2
  have HMp2 : Hid (Mp W2.drew 3 bm nm Gm) := hT2.mm.carry rfl
  have hbmw : w.heap.size ≠ bm := fun e => HS.out.2.1 (e ▸ hT2.sm)
  have hbmg : g ≠ bm := fun e => by have h1 := hT2.og; have h2 := hT2.om; rw [e, h2] at h1; cases h1
  have HTur : Hid (∀ w3, Tur W2.drew w3 bm → Hr g (ad + 1) bm w.heap.size r m w3) := fun w3 hT => Hr.mk' (vr := vr) ((hT.block g hbmg).trans hT2.hg) ((hT.block _ hbmw).trans hX2)
  have HT2 := hid (And.intro hT2 (And.intro hX2 (And.intro hO2 hs2)))
  clear hT2 hX2 hO2 hs2 hW2 k3 k4 k5 k6
  refine wp_region_held_drew (S := Hr g (ad + 1) bm w.heap.size r m) (by kernel_rfl) HR2.out (fun hHeld => ?_)
  refine wpAnyH_take (i := 0) (v := ?_) rfl (by kernel_rfl) (by kernel_rfl) (by kernel_rfl) (fun _ _ _ h => h) (Or.inl ⟨by rfl, ?_⟩) hHeld ?_
  rotate_left
  · intro w' hSw
    clear hSw
    go_simp
    first | done | with_reducible rfl
  simp only [Act.put, List.getElem_toArray, List.getElem_cons_zero, List.setIfInBounds_toArray, List.set_cons_zero, List.set_cons_succ]
  refine wpAnyH_take (i := 1) (v := ?_) rfl (by kernel_rfl) (by kernel_rfl) (by kernel_rfl) (fun _ _ _ h => h) (Or.inl ⟨by rfl, ?_⟩) hHeld ?_
  rotate_left
  · intro w' hSw
    clear hSw
    go_simp
    first | done | with_reducible rfl
  simp only [Act.put, List.getElem_toArray, List.getElem_cons_succ, List.getElem_cons_zero, List.setIfInBounds_toArray, List.set_cons_zero, List.set_cons_succ]
  refine wpAnyH_take (i := 2) (v := ?_) rfl (by kernel_rfl) (by kernel_rfl) (by kernel_rfl) (fun _ _ _ h => h) (Or.inl ⟨by rfl, ?_⟩) hHeld ?_
  rotate_left
  · intro w' hSw
    clear hSw
    go_simp
    first | done | with_reducible rfl
  simp only [Act.put, List.getElem_toArray, List.getElem_cons_succ, List.getElem_cons_zero, List.setIfInBounds_toArray, List.set_cons_zero, List.set_cons_succ]
  refine wpAnyH_take (i := 3) (v := ?_) rfl (by kernel_rfl) (by kernel_rfl) (by kernel_rfl) (fun _ _ _ h => h) (Or.inl ⟨by rfl, ?_⟩) hHeld ?_
  rotate_left
  · intro w' hSw
    have c1 := hSw.c1
    clear hSw
    go_simp
    first | done | with_reducible rfl
  simp only [Act.put, List.getElem_toArray, List.getElem_cons_succ, List.getElem_cons_zero, List.setIfInBounds_toArray, List.set_cons_zero, List.set_cons_succ]
  refine wpAnyH_take (i := 4) (v := ?_) rfl (by kernel_rfl) (by kernel_rfl) (by kernel_rfl) (fun _ _ _ h => h) (Or.inl ⟨by rfl, ?_⟩) hHeld ?_
  rotate_left
  · intro w' hSw
    clear hSw
    go_simp
    first | done | with_reducible rfl
  simp only [Act.put, List.getElem_toArray, List.getElem_cons_succ, List.getElem_cons_zero, List.setIfInBounds_toArray, List.set_cons_zero, List.set_cons_succ]
  refine wpAnyH_take (i := 5) (v := ?_) rfl (by kernel_rfl) (by kernel_rfl) (by kernel_rfl) (fun _ _ _ h => h) (Or.inl ⟨by rfl, ?_⟩) hHeld ?_
  rotate_left
  · intro w' hSw
    clear hSw
    go_simp
    first | done | with_reducible rfl
  simp only [Act.put, List.getElem_toArray, List.getElem_cons_succ, List.getElem_cons_zero, List.setIfInBounds_toArray, List.set_cons_zero, List.set_cons_succ]
  refine wpAnyH_take (i := 6) (v := ?_) rfl (by kernel_rfl) (by kernel_rfl) (by kernel_rfl) (fun _ _ _ h => h) (Or.inl ⟨by rfl, ?_⟩) hHeld ?_
  rotate_left
  · intro w' hSw
    clear hSw
    go_simp
    first | done | with_reducible rfl
  simp only [Act.put, List.getElem_toArray, List.getElem_cons_succ, List.getElem_cons_zero, List.setIfInBounds_toArray, List.set_cons_zero, List.set_cons_succ]
  refine wpAnyH_take (i := 7) (v := ?_) rfl (by kernel_rfl) (by kernel_rfl) (by kernel_rfl) (fun _ _ _ h => h) (Or.inl ⟨by rfl, ?_⟩) hHeld ?_
  rotate_left
  · intro w' hSw
    have c0 := hSw.c0
    clear hSw
    go_simp
    first | done | with_reducible rfl
  simp only [Act.put, List.getElem_toArray, List.getElem_cons_succ, List.getElem_cons_zero, List.setIfInBounds_toArray, List.set_cons_zero, List.set_cons_succ]
  refine wpAnyH_take (i := 8) (v := ?_) rfl (by kernel_rfl) (by kernel_rfl) (by kernel_rfl) (fun _ _ _ h => h) (Or.inl ⟨by rfl, ?_⟩) hHeld ?_
  rotate_left
  · intro w' hSw
    clear hSw
    go_simp
    first | done | with_reducible rfl
  simp only [Act.put, List.getElem_toArray, List.getElem_cons_succ, List.getElem_cons_zero, List.setIfInBounds_toArray, List.set_cons_zero, List.set_cons_succ]
  refine wpAnyH_take (i := 9) (v := (mv m)) rfl (by kernel_rfl) (by kernel_rfl) (by kernel_rfl) (fun _ _ _ h => h) (Or.inl ⟨by rfl, ?_⟩) hHeld ?_
  · intro w' hSw
    exact runLd 32 (.tmp 37) rfl w.heap.size 1 rfl (row 22 m) _ hSw.rm Tryz.underlying32 rfl (size26 m)
  simp only [Act.put, List.getElem_toArray, List.getElem_cons_succ, List.getElem_cons_zero, List.setIfInBounds_toArray, List.set_cons_zero, List.set_cons_succ]
  refine wpAnyH_ready (rs := [10]) (by kernel_rfl) (by simp) ?_
  refine AllReadyH.cons rfl (fun K hK => ?_) AllReadyH.nil
  refine stepStore (.tmp 32) (.tmp 36) (.tmp 38) 212 rfl rfl rfl rfl rfl HMp2.out lawI Tryz.underlying212 (by omega) (key_i hadw) ?_
  intro w3 hM3 hT3
  have HM3 := hid hM3
  have HT3 := hid hT3
  refine hK.out _ _ (HTur.out w3 hT3) (fun hHeld => ?_)
  clear hK K hM3 hT3
  simp only [Act.put, List.getElem_toArray, List.getElem_cons_succ, List.getElem_cons_zero]
  refine wpAnyH_done (by kernel_rfl) ?_ _
  have hT3 : TabM S' o w3 g (ad + 1) bm (if (Gm (.int .i64 (ad + 1))).isSome then nm else nm + 1) (updL Gm (.int .i64 (ad + 1)) (some (mv m))) vr rs := (show TabM S' o W2.drew g (ad + 1) bm nm Gm vr rs from HT2.out.1.carry fun b _ hS _ => ⟨hS, rfl, rfl⟩).setMat HT3.out HM3.out
  have hX3 : w3.heap[w.heap.size]? = some (.cells (rc r m cp ck) 35 (0, 0)) := (HT3.out.block _ hbmw).trans HT2.out.2.1
  have hO3 : Only S w w3 := HT2.out.2.2.1.trans ⟨HT3.out.os, HT3.out.tape, HT3.out.output, Nat.le_of_eq HT3.out.size.symm, fun b hb => HT3.out.block b fun e => hb (HS.out.1 b (e ▸ hT3.sm))⟩
  have hs3 : W0.heap.size ≤ w3.heap.size := by have h1 := HT3.out.size; have h2 : W2.drew.heap.size = W2.heap.size := rfl; have := HT2.out.2.2.2; omega
  have HTk := hid (takeOut_any w3 g (ad + 1) bm _ _ vr rs (fun k => m (11 + k)) hT3 (HS.out.2.2 w3 hs3) (fun k => hw (11 + k)) (by omega))
  have HRk : Hid (w3.rangeAt w.heap.size 12 (row 11 fun k => m (11 + k)).toList) := (HTur.out w3 HT3.out).rk
  have HT3' := hid (And.intro hX3 (And.intro hO3 hs3))
  clear hT3 hX3 hO3 hs3 HTur HR2 HMp2 HM3 HT3
  go_upto_region 10 with (first
    | (refine ldMid 30 (.tmp 41) rfl rfl w.heap.size 12 rfl (row 11 fun k => m (11 + k)) _ Tryz.underlying30 rfl (sizeH _) HRk.out ?_)
    | (go_at_call 153; refine (HTk.out).mono ?_; rintro e w4 ⟨ρ, rs', vr4, o4, rfl, hO4, hT4, hR4, hd4, hm4, hou⟩
       have H4 := hid (And.intro hO4 (And.intro hT4 (And.intro hR4 (And.intro hd4 (And.intro hm4 hou)))))
       clear hO4 hT4 hR4 hd4 hm4 hou HTk))
  obtain ⟨hO4, hT4, hR4, hd4, hm4, hou⟩ := H4.out
  have hX4 : w4.heap[w.heap.size]? = some (.cells (rc r m cp ck) 35 (0, 0)) := (hO4.block _ HS.out.2.1).trans HT3'.out.1
  have hs4 : W0.heap.size ≤ w4.heap.size := Nat.le_trans HT3'.out.2.2 hO4.size
  have hbd : ρ.n < 2147483648 ∧ (ρ.E (kl m)).length < 2147483647 := by
    rcases hou with ⟨i, hi, h1, h2⟩ | ⟨h1, h2, h3⟩
    · have := hrn ρ (h1 ▸ List.getElem_mem hi)
      exact ⟨this.1, this.2 _⟩
    · rw [h3]; exact ⟨by show (0 : Nat) < _; omega, by show ([] : List En).length < _; simp⟩
  have hrl' : rs'.length < 2147483647 := by
    rcases hou with ⟨i, hi, h1, h2⟩ | ⟨h1, h2, h3⟩
    · rw [h2, List.length_eraseIdx_of_lt hi]; omega
    · rw [h1]; omega
  have HR4 : Hid (Hr g (ad + 1) bm w.heap.size r m w4.drew) := Hr.mk' (vr := vr4) hT4.hg hX4
  have hR4d : RowM S' o4 w4.drew ρ := hR4.carry fun b _ hS _ => ⟨hS, rfl, rfl⟩
  have hT4d : TabM S' o4 w4.drew g (ad + 1) bm (if (Gm (.int .i64 (ad + 1))).isSome then nm else nm + 1) (updL Gm (.int .i64 (ad + 1)) (some (mv m))) vr4 rs' := hT4.carry fun b _ hS _ => ⟨hS, rfl, rfl⟩
  have HAd := hid (add_any w4.drew ρ m ⟨r, ad + 1⟩ hR4d (HS.out.2.2 w4.drew hs4) hw hbd.2 hbd.1)
  have hgt : ∀ p, ¬ ((S' g ∧ Tg p (o4 g)) ∨ w4.drew.heap.size ≤ g) := fun p e => by
    rcases e with e | e
    · exact e.2.tag.1 hT4.og
    · have h1 : w4.heap.size ≤ g := e
      have := HB0.out.2
      omega
  have hbt : ∀ p, ¬ ((S' w.heap.size ∧ Tg p (o4 w.heap.size)) ∨ w4.drew.heap.size ≤ w.heap.size) := fun p e => by
    rcases e with e | e
    · exact HS.out.2.1 e.1
    · have h1 : w4.heap.size ≤ w.heap.size := e
      have := HB0.out.2
      omega
  have HR5 : Hid (∀ w5, Only (fun b => (S' b ∧ Tg ρ.p (o4 b)) ∨ w4.drew.heap.size ≤ b) w4.drew w5 → Hr g (ad + 1) bm w.heap.size r m w5) := fun w5 hO => Hr.mk' (vr := vr4) ((hO.block g (hgt _)).trans hT4.hg) ((hO.block _ (hbt _)).trans hX4)
  have HO4 := hid (show Only S w w4.drew from HT3'.out.2.1.trans ((hO4.mono HS.out.1).drew))
  have HT4 := hid (And.intro hT4d (And.intro hd4 (And.intro hs4 (And.intro hrl' (show Out rs (fun k => m (11 + k)) ρ rs' from ⟨hm4, hou⟩)))))
  clear hO4 hT4 hR4 hd4 hm4 hou H4 hX4 hs4 hbd hrl' hR4d hT4d hgt hbt HT3' HT2 HRk hrn
  refine wp_region_held_drew (S := Hr g (ad + 1) bm w.heap.size r m) (by kernel_rfl) HR4.out (fun hHeld => ?_)
  refine wpAnyH_take (i := 0) (v := ?_) rfl (by kernel_rfl) (by kernel_rfl) (by kernel_rfl) (fun _ _ _ h => h) (Or.inl ⟨by rfl, ?_⟩) hHeld ?_
  rotate_left
  · intro w' hSw
    clear hSw
    go_simp
    first | done | with_reducible rfl
  simp only [Act.put, List.getElem_toArray, List.getElem_cons_zero, List.setIfInBounds_toArray, List.set_cons_zero, List.set_cons_succ]
  refine wpAnyH_take (i := 1) (v := ?_) rfl (by kernel_rfl) (by kernel_rfl) (by kernel_rfl) (fun _ _ _ h => h) (Or.inl ⟨by rfl, ?_⟩) hHeld ?_
  rotate_left
  · intro w' hSw
    clear hSw
    go_simp
    first | done | with_reducible rfl
  simp only [Act.put, List.getElem_toArray, List.getElem_cons_succ, List.getElem_cons_zero, List.setIfInBounds_toArray, List.set_cons_zero, List.set_cons_succ]
  refine wpAnyH_take (i := 2) (v := ?_) rfl (by kernel_rfl) (by kernel_rfl) (by kernel_rfl) (fun _ _ _ h => h) (Or.inl ⟨by rfl, ?_⟩) hHeld ?_
  rotate_left
  · intro w' hSw
    clear hSw
    go_simp
    first | done | with_reducible rfl
  simp only [Act.put, List.getElem_toArray, List.getElem_cons_succ, List.getElem_cons_zero, List.setIfInBounds_toArray, List.set_cons_zero, List.set_cons_succ]
  refine wpAnyH_take (i := 3) (v := (hv m)) rfl (by kernel_rfl) (by kernel_rfl) (by kernel_rfl) (fun _ _ _ h => h) (Or.inl ⟨by rfl, ?_⟩) hHeld ?_
  · intro w' hSw
    exact runLd 30 (.tmp 46) rfl w.heap.size 1 rfl (row 11 m) _ hSw.rx Tryz.underlying30 rfl (sizeH m)
  simp only [Act.put, List.getElem_toArray, List.getElem_cons_succ, List.getElem_cons_zero, List.setIfInBounds_toArray, List.set_cons_zero, List.set_cons_succ]
  refine wpAnyH_take (i := 4) (v := ?_) rfl (by kernel_rfl) (by kernel_rfl) (by kernel_rfl) (fun _ _ _ h => h) (Or.inl ⟨by rfl, ?_⟩) hHeld ?_
  rotate_left
  · intro w' hSw
    clear hSw
    go_simp
    first | done | with_reducible rfl
  simp only [Act.put, List.getElem_toArray, List.getElem_cons_succ, List.getElem_cons_zero, List.setIfInBounds_toArray, List.set_cons_zero, List.set_cons_succ]
  refine wpAnyH_take (i := 5) (v := ?_) rfl (by kernel_rfl) (by kernel_rfl) (by kernel_rfl) (fun _ _ _ h => h) (Or.inl ⟨by rfl, ?_⟩) hHeld ?_
  rotate_left
  · intro w' hSw
    have cr := hSw.cr
    clear hSw
    go_simp
    first | done | with_reducible rfl
  simp only [Act.put, List.getElem_toArray, List.getElem_cons_succ, List.getElem_cons_zero, List.setIfInBounds_toArray, List.set_cons_zero, List.set_cons_succ]
  refine wpAnyH_take (i := 6) (v := ?_) rfl (by kernel_rfl) (by kernel_rfl) (by kernel_rfl) (fun _ _ _ h => h) (Or.inl ⟨by rfl, ?_⟩) hHeld ?_
  rotate_left
  · intro w' hSw
    clear hSw
    go_simp
    first | done | with_reducible rfl
  simp only [Act.put, List.getElem_toArray, List.getElem_cons_succ, List.getElem_cons_zero, List.setIfInBounds_toArray, List.set_cons_zero, List.set_cons_succ]
  refine wpAnyH_take (i := 7) (v := ?_) rfl (by kernel_rfl) (by kernel_rfl) (by kernel_rfl) (fun _ _ _ h => h) (Or.inl ⟨by rfl, ?_⟩) hHeld ?_
  rotate_left
  · intro w' hSw
    clear hSw
    go_simp
    first | done | with_reducible rfl
  simp only [Act.put, List.getElem_toArray, List.getElem_cons_succ, List.getElem_cons_zero, List.setIfInBounds_toArray, List.set_cons_zero, List.set_cons_succ]
  refine wpAnyH_take (i := 8) (v := ?_) rfl (by kernel_rfl) (by kernel_rfl) (by kernel_rfl) (fun _ _ _ h => h) (Or.inl ⟨by rfl, ?_⟩) hHeld ?_
  rotate_left
  · intro w' hSw
    clear hSw
    go_simp
    first | done | with_reducible rfl
  simp only [Act.put, List.getElem_toArray, List.getElem_cons_succ, List.getElem_cons_zero, List.setIfInBounds_toArray, List.set_cons_zero, List.set_cons_succ]
  refine wpAnyH_take (i := 9) (v := ?_) rfl (by kernel_rfl) (by kernel_rfl) (by kernel_rfl) (fun _ _ _ h => h) (Or.inl ⟨by rfl, ?_⟩) hHeld ?_
  rotate_left
  · intro w' hSw
    have c0 := hSw.c0
    clear hSw
    go_simp
    first | done | with_reducible rfl
  simp only [Act.put, List.getElem_toArray, List.getElem_cons_succ, List.getElem_cons_zero, List.setIfInBounds_toArray, List.set_cons_zero, List.set_cons_succ]
  refine wpAnyH_take (i := 10) (v := ?_) rfl (by kernel_rfl) (by kernel_rfl) (by kernel_rfl) (fun _ _ _ h => h) (Or.inl ⟨by rfl, ?_⟩) hHeld ?_
  rotate_left
  · intro w' hSw
    clear hSw
    go_simp
    first | done | with_reducible rfl
  simp only [Act.put, List.getElem_toArray, List.getElem_cons_succ, List.getElem_cons_zero, List.setIfInBounds_toArray, List.set_cons_zero, List.set_cons_succ]
  refine wpAnyH_ready (rs := [11]) (by kernel_rfl) (by simp) ?_
  refine AllReadyH.cons rfl (fun K hK => ?_) AllReadyH.nil
  refine stepFnW 154 (.func 154) [.tmp 44, .tmp 47, .tmp 54] _ [pv ρ.p, hv m, ev ⟨r, ad + 1⟩] rfl rfl rfl rfl (fun _ => rfl) _ HAd.out ?_
  rintro e5 w5 hP5
  have HP5 := hid hP5
  obtain ⟨rfl, -⟩ := hP5
  refine Or.inl ⟨_, rfl, ?_⟩
  refine hK.out _ _ (HR5.out w5 HP5.out.2.1) (fun hHeld => ?_)
  clear hK K
  simp only [Act.put, List.getElem_toArray, List.getElem_cons_succ, List.getElem_cons_zero, List.setIfInBounds_toArray, List.set_cons_zero, List.set_cons_succ]
  refine wpAnyH_done (by kernel_rfl) ?_ _
  obtain ⟨-, hO5, v5, hR5⟩ := HP5.out
  have hT5 := HT4.out.1.rowAdd (t := .ent ρ.p (kl m)) hO5 HT4.out.2.1
  have hf5 : Fresh S' w5 := HS.out.2.2 w5 (Nat.le_trans HT4.out.2.2.1 hO5.size)
  have HPb := hid (putBack_any w5 g (ad + 1) bm _ _ vr4 rs' (addRo ρ m ⟨r, ad + 1⟩ v5) hT5 hR5 HT4.out.2.1 hf5 HT4.out.2.2.2.1)
  have hn5 : (addRo ρ m ⟨r, ad + 1⟩ v5).n ≠ 0 := fun e => by
    have h1 := hR5.mp
    rw [e] at h1
    have h2 := h1.empty (kl m)
    have h3 : (addRo ρ m ⟨r, ad + 1⟩ v5).G (kl m) = some v5 := updL_same _ _ _
    rw [h3] at h2; cases h2
  have HO5 : Hid (Only S w w5) := HO4.out.trans (hO5.mono fun b hb => by
    rcases hb with hb | hb
    · exact HS.out.1 b hb.1
    · exact HS.out.1 b (HS.out.2.2 w4.drew HT4.out.2.2.1 b hb))
  have HN5 := hid hn5
  clear hO5 hR5 hT5 hf5 hn5
  go_wp2_with (go_at_call 155; refine (HPb.out).mono ?_; rintro e6 w6 ⟨rfl, hO6, vr6, o6, hT6⟩
               rw [if_neg HN5.out] at hT6
               obtain ⟨z0, -, -, -⟩ := three_cells hT6.hg
               have H6 := hid (And.intro hO6 hT6)
               clear hO6 hT6 HPb)
  refine bodyPost_ret (results_tmp2 rfl _ _ _) rfl ?_
  exact ⟨rfl, HO5.out.trans (H6.out.1.mono HS.out.1), o6, vr6, ρ, rs', v5, HT4.out.2.2.2.2, H6.out.2.carry fun b _ hS _ => ⟨HS.out.1 b hS, rfl, rfl⟩⟩
end Go.Proofs.YtdehlnaoehjehaaGreatDoor
