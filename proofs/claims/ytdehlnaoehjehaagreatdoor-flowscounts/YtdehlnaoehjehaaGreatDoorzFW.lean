/-
  Proved here: areMatches, Under of package match (and the document's Under, where it is there) tell what 'und' says, for every two matches; no old memory turns. Condition: the widths' table holds its eleven numbers.
-/
/-
  Proved here: the closure of under; under of package flows: the rules under a match, in order; placeOf; ofPlace; size; a tally's add. Conditions: the widths' table holds its numbers; fewer than 2 to 31 rules.
-/
import Derived.Test.YtdehlnaoehjehaaGreatDoorzMH
import Derived.Test.YtdehlnaoehjehaaGreatDoorzFU
namespace Go.Proofs.YtdehlnaoehjehaaGreatDoor
set_option maxRecDepth 100000
open Go.RowKit

abbrev W2 (w : World) (a b : Nat → Int) : World := (w.alloc (.cells (row 22 a) 32)).alloc (.cells (row 22 b) 32)
theorem W2.a (w : World) (a b : Nat → Int) : Blk (W2 w a b) w.heap.size 22 32 a := (Blk.new w 22 32 a).alloc _
theorem W2.b (w : World) (a b : Nat → Int) : Blk (W2 w a b) (w.heap.size + 1) 22 32 b := Blk.new1 w _ 22 32 b
theorem W2.low (w : World) (a b : Nat → Int) : Below w.heap.size w (W2 w a b) := ((Below.refl _ _).alloc (Nat.le_refl _) _).alloc (by simp) _

set_option maxHeartbeats 800000 in
/-- WHAT areMatches ANSWERS. -/
theorem are_any (a b : Nat → Int) (w : World) (hw : Tab w) :
    Calls Tryz.prog 125 #[mv a, mv b] w fun e w' => e = .returned (.bool (mOk a && mOk b)) ∧ Below w.heap.size w w' := by
  have hA0 := W2.a w a b
  have hB0 := W2.b w a b
  have hlow := W2.low w a b
  have hT : Hid (Tab (W2 w a b)) := hw.on hlow
  clear hw
  cases ha : mOk a
  · go_enter Tryz.func125, Tryz.ntmps125
    go_wp2_with (refine ld26 (.tmp 2) rfl _ rfl rfl a hA0 ?_)
    go_fit (check_any a _ hT.out)
    rw [chk_bad ha]
    rintro e w1 ⟨rfl, hb1⟩
    have hl1 := hlow.trans (hb1.mono hlow.size)
    go_wp2
    go_ret
    exact ⟨rfl, hl1⟩
  · cases hb : mOk b
    · go_enter Tryz.func125, Tryz.ntmps125
      go_wp2_with (refine ld26 (.tmp 2) rfl _ rfl rfl a hA0 ?_)
      go_fit (check_any a _ hT.out)
      rw [chk_ok ha]
      rintro e w1 ⟨rfl, hb1⟩
      have hl1 := hlow.trans (hb1.mono hlow.size)
      have hB1 := hB0.on hb1
      have hT1 : Hid (Tab w1) := hT.out.on hb1
      clear hb1 hA0 hB0 hT hlow
      go_wp2_with (refine ld26 (.tmp 3) rfl _ rfl rfl b hB1 ?_)
      go_fit (check_any b _ hT1.out)
      rw [chk_bad hb]
      rintro e w2 ⟨rfl, hb2⟩
      have hl2 := hl1.trans (hb2.mono hl1.size)
      go_wp2
      go_ret
      exact ⟨rfl, hl2⟩
    · go_enter Tryz.func125, Tryz.ntmps125
      go_wp2_with (refine ld26 (.tmp 2) rfl _ rfl rfl a hA0 ?_)
      go_fit (check_any a _ hT.out)
      rw [chk_ok ha]
      rintro e w1 ⟨rfl, hb1⟩
      have hl1 := hlow.trans (hb1.mono hlow.size)
      have hB1 := hB0.on hb1
      have hT1 : Hid (Tab w1) := hT.out.on hb1
      clear hb1 hA0 hB0 hT hlow
      go_wp2_with (refine ld26 (.tmp 3) rfl _ rfl rfl b hB1 ?_)
      go_fit (check_any b _ hT1.out)
      rw [chk_ok hb]
      rintro e w2 ⟨rfl, hb2⟩
      have hl2 := hl1.trans (hb2.mono hl1.size)
      go_wp2
      go_ret
      exact ⟨rfl, hl2⟩

def over (a b : Nat → Int) (k : Nat) : Bool := bits .andNot .u64 (b (11 + k)) (a (11 + k)) != 0 || bits .and .u64 (a k) (b (11 + k)) != b k
def und (a b : Nat → Int) : Bool := mOk a && mOk b && allU (fun k => !over a b k) 11

set_option maxHeartbeats 1600000 in
theorem under_any (a b : Nat → Int) (w : World) (hw : Tab w) :
    Calls Tryz.prog 85 #[mv a, mv b] w fun e w' => e = .returned (.bool (und a b)) ∧ Below w.heap.size w w' := by
  have hA0 := W2.a w a b
  have hB0 := W2.b w a b
  have hlow := W2.low w a b
  have hT : Hid (Tab (W2 w a b)) := hw.on hlow
  clear hw
  cases hm : mOk a && mOk b
  · rw [show und a b = false by simp only [und, hm, Bool.false_and]]
    have hC : Hid (Calls Tryz.prog 125 #[mv a, mv b] (W2 w a b) fun e w' => e = .returned (.bool false) ∧ Below (W2 w a b).heap.size (W2 w a b) w') := by
      have := are_any a b _ hT.out
      rwa [hm] at this
    clear hm hT
    go_enter Tryz.func85, Tryz.ntmps85
    go_wp2_with (first | (refine ld26 (.tmp 2) rfl _ rfl rfl a hA0 ?_) | (refine ld26 (.tmp 3) rfl _ rfl rfl b hB0 ?_))
    go_fit hC.out
    rintro e w1 ⟨rfl, hb1⟩
    have hl1 := hlow.trans (hb1.mono hlow.size)
    go_wp2
    go_ret
    exact ⟨rfl, hl1⟩
  · rw [show und a b = allU (fun k => !over a b k) 11 by simp only [und, hm, Bool.true_and]]
    have hC : Hid (Calls Tryz.prog 125 #[mv a, mv b] (W2 w a b) fun e w' => e = .returned (.bool true) ∧ Below (W2 w a b).heap.size (W2 w a b) w') := by
      have := are_any a b _ hT.out
      rwa [hm] at this
    clear hm hT
    go_enter Tryz.func85, Tryz.ntmps85
    go_wp2_with (first | (refine ld26 (.tmp 2) rfl _ rfl rfl a hA0 ?_) | (refine ld26 (.tmp 3) rfl _ rfl rfl b hB0 ?_))
    go_fit hC.out
    rintro e w1 ⟨rfl, hb1⟩
    have hl1 := hlow.trans (hb1.mono hlow.size)
    have hA1 := hA0.on hb1
    have hB1 := hB0.on hb1
    clear hb1 hA0 hB0 hlow hC
    go_wp2_with (refine ldMask (.tmp 11) rfl _ rfl rfl b hB1 ?_)
    go_loopw [13] (fun i wr => ∃ k : Nat, k ≤ 11 ∧ i = .int .i64 k ∧ allU (fun k => !over a b k) k = true ∧ Blk wr w.heap.size 22 32 a ∧ Blk wr (w.heap.size + 1) 22 32 b ∧ Below w.heap.size w wr) (fun i _ => 11 - (intOf i).toNat)
    case atStart => exact ⟨0, by omega, rfl, rfl, hA1, hB1, hl1⟩
    case round =>
      clear hA1 hB1 hl1
      obtain ⟨k, hk, rfl, hall, hA, hB, hlow⟩ := hrel
      have HALL : Hid (allU (fun k => !over a b k) k = true) := hall
      clear hall
      by_cases hlt : k < 11
      · have hc1 : wr.cell? ⟨w.heap.size, k, none⟩ = some (.int .u64 (a k)) := hA.cell k (by omega)
        have hc2 : wr.cell? ⟨w.heap.size, 11 + k, none⟩ = some (.int .u64 (a (11 + k))) := hA.cell (11 + k) (by omega)
        have hc3 : wr.cell? ⟨w.heap.size + 1, k, none⟩ = some (.int .u64 (b k)) := hB.cell k (by omega)
        have hidx : ∀ W, (Instr.index 30 (hv fun k => b (11 + k)) (.int .i64 (k : Int))).run Tryz.prog W = .ok (.int .u64 (b (11 + k))) W := fun W => idx_hv (fun k => b (11 + k)) k hlt W
        cases t1 : (bits .andNot .u64 (b (11 + k)) (a (11 + k)) != 0)
        · cases t2 : (bits .and .u64 (a k) (b (11 + k)) != b k)
          · have HF : Hid (over a b k = false) := by show over a b k = false; simp [over, t1, t2]
            go_wp2_with fail
            go_quiet (fail)
            go_wp2
            go_roundw
            case rel => exact ⟨k + 1, by omega, by go_num, by simp [allU, HALL.out, HF.out], hA.drewN _, hB.drewN _, bel_drewN hlow _⟩
            case measure => simp [intOf]; omega
          · have HF : Hid (allU (fun k => !over a b k) 11 = false) := allU_false hlt (by simp [over, t2])
            go_wp2_with fail
            go_quiet (fail)
            go_wp2
            go_ret
            exact ⟨by rw [HF.out]; rfl, bel_drewN hlow _⟩
        · have HF : Hid (allU (fun k => !over a b k) 11 = false) := allU_false hlt (by simp [over, t1])
          go_wp2_with fail
          go_quiet (fail)
          go_wp2
          go_ret
          exact ⟨by rw [HF.out]; rfl, bel_drewN hlow _⟩
      · obtain rfl : k = 11 := by omega
        go_wp2
        go_ret
        exact ⟨by rw [HALL.out]; rfl, hlow⟩

end Go.Proofs.YtdehlnaoehjehaaGreatDoor
namespace Go.Proofs.YtdehlnaoehjehaaGreatDoor
set_option maxRecDepth 100000
open Go.RowKit Go.Maps

/-- What the closure reads. -/
structure Hun (p b : Nat) (x y : Nat → Int) (w : World) : Prop where
  r1 : w.rangeAt p 4 (row 22 x).toList
  r2 : w.rangeAt b 0 (row 22 y).toList
theorem range_on {w w' : World} {g p : Nat} {xs : List Value} (h : w.rangeAt g p xs) (hb : Below w.heap.size w w') : w'.rangeAt g p xs := fun j v hj => cell_on hb (h j v hj)
theorem fec_range {w : World} {e : Fe} (h : w.heap[e.p]? = some (.cells (fec e) 104 (0, 0))) : w.rangeAt e.p 4 (row 22 e.r.mt).toList := range_of fun i hi => by
  rw [row_size] at hi
  rw [cell_of_row _ _ _ _ _ _ h, show 4 + i = 3 + (1 + i) by omega, fec_rl e (1 + i) (by omega), row_at 22 _ _ hi]
  exact rc_mat _ _ _ _ _ hi
theorem blk_range {w : World} {b t : Nat} {m : Nat → Int} (h : Blk w b 22 t m) : w.rangeAt b 0 (row 22 m).toList := range_of fun i hi => by
  rw [Nat.zero_add, cell_of_row _ _ _ _ _ _ h]
set_option maxHeartbeats 1600000 in
set_option maxRecDepth 100000 in
theorem under1_any (p b : Nat) (x y : Nat → Int) (w : World) (h : Hun p b x y w) (ht : Tab w) : Calls Tryz.prog 84 #[pv p, .pointer (some ⟨b, 0, none⟩)] w fun r w' => r = .returned (.bool (!und x y)) ∧ Below w.heap.size w w' := by
  have HU := hid (under_any x y w.drew ht)
  have HH := hid h
  have hnot : ∀ (x : Bool) (w : World), (Op.unary .not (.bool x)).run Tryz.prog w = .ok (.bool (!x)) w := fun _ _ => rfl
  obtain ⟨t, ht'⟩ : ∃ t, t = und x y := ⟨_, rfl⟩
  rw [← ht'] at HU ⊢
  clear ht h ht'
  go_enter Tryz.func84, Tryz.ntmps84
  go_upto_region 1 with fail
  refine wp_region_held_drew (S := Hun p b x y) (by kernel_rfl) ⟨HH.out.r1, HH.out.r2⟩ (fun hHeld => ?_)
  refine wpAnyH_take (i := 0) (v := ?_) rfl (by kernel_rfl) (by kernel_rfl) (by kernel_rfl) (fun _ _ _ h => h) (Or.inl ⟨by rfl, ?_⟩) hHeld ?_
  rotate_left
  · intro w' hSw
    clear hSw
    go_simp
    first | done | with_reducible rfl
  simp only [Act.put, List.getElem_toArray, List.getElem_cons_zero, List.setIfInBounds_toArray, List.set_cons_zero, List.set_cons_succ]
  refine wpAnyH_take (i := 1) (v := ?_) rfl (by kernel_rfl) (by kernel_rfl) (by kernel_rfl) (fun _ _ _ h => h) (Or.inl ⟨by rfl, ?_⟩) hHeld ?_
  rotate_left
  · intro w' hSw
    clear hSw
    go_simp
    first | done | with_reducible rfl
  simp only [Act.put, List.getElem_toArray, List.getElem_cons_succ, List.getElem_cons_zero, List.setIfInBounds_toArray, List.set_cons_zero, List.set_cons_succ]
  refine wpAnyH_take (i := 2) (v := ?_) rfl (by kernel_rfl) (by kernel_rfl) (by kernel_rfl) (fun _ _ _ h => h) (Or.inl ⟨by rfl, ?_⟩) hHeld ?_
  rotate_left
  · intro w' hSw
    clear hSw
    go_simp
    first | done | with_reducible rfl
  simp only [Act.put, List.getElem_toArray, List.getElem_cons_succ, List.getElem_cons_zero, List.setIfInBounds_toArray, List.set_cons_zero, List.set_cons_succ]
  refine wpAnyH_take (i := 3) (v := ?_) rfl (by kernel_rfl) (by kernel_rfl) (by kernel_rfl) (fun _ _ _ h => h) (Or.inl ⟨by rfl, ?_⟩) hHeld ?_
  rotate_left
  · intro w' hSw
    clear hSw
    go_simp
    first | done | with_reducible rfl
  simp only [Act.put, List.getElem_toArray, List.getElem_cons_succ, List.getElem_cons_zero, List.setIfInBounds_toArray, List.set_cons_zero, List.set_cons_succ]
  refine wpAnyH_take (i := 4) (v := mv x) rfl (by kernel_rfl) (by kernel_rfl) (by kernel_rfl) (fun _ _ _ h => h) (Or.inl ⟨by rfl, ?_⟩) hHeld ?_
  · intro w' hSw
    exact runLd 32 (.tmp 7) rfl p 4 rfl (row 22 x) _ hSw.r1 Tryz.underlying32 rfl (size26 x)
  simp only [Act.put, List.getElem_toArray, List.getElem_cons_succ, List.getElem_cons_zero, List.setIfInBounds_toArray, List.set_cons_zero, List.set_cons_succ]
  refine wpAnyH_take (i := 5) (v := mv y) rfl (by kernel_rfl) (by kernel_rfl) (by kernel_rfl) (fun _ _ _ h => h) (Or.inl ⟨by rfl, ?_⟩) hHeld ?_
  · intro w' hSw
    exact runLd 32 (.tmp 1) rfl b 0 rfl (row 22 y) _ hSw.r2 Tryz.underlying32 rfl (size26 y)
  simp only [Act.put, List.getElem_toArray, List.getElem_cons_succ, List.getElem_cons_zero, List.setIfInBounds_toArray, List.set_cons_zero, List.set_cons_succ]
  refine wpAnyH_ready (rs := [6]) (by kernel_rfl) (by simp) ?_
  refine AllReadyH.cons rfl (fun K hK => ?_) AllReadyH.nil
  refine stepFnW 85 (.func 85) [.tmp 8, .tmp 9] _ [mv x, mv y] rfl rfl rfl rfl (fun _ => rfl) _ HU.out ?_
  rintro e w1 ⟨rfl, hb1⟩
  refine Or.inl ⟨_, rfl, ?_⟩
  have HB1 : Hid (Below w.heap.size w w1) := (Below.refl _ w).drew.trans hb1
  refine hK.out _ _ ⟨range_on (w := w) HH.out.r1 HB1.out, range_on (w := w) HH.out.r2 HB1.out⟩ (fun hHeld => ?_)
  clear hK K
  simp only [Act.put, List.getElem_toArray, List.getElem_cons_succ, List.getElem_cons_zero, List.setIfInBounds_toArray, List.set_cons_zero, List.set_cons_succ]
  clear hb1
  refine wpAnyH_take (i := 7) (v := ?_) rfl (by kernel_rfl) (by kernel_rfl) (by kernel_rfl) (fun _ _ _ h => h) (Or.inl ⟨by rfl, ?_⟩) hHeld ?_
  rotate_left
  · intro w' hSw
    clear hSw
    go_simp
    first | done | with_reducible rfl
  simp only [Act.put, List.getElem_toArray, List.getElem_cons_succ, List.getElem_cons_zero, List.setIfInBounds_toArray, List.set_cons_zero, List.set_cons_succ]
  refine wpAnyH_take (i := 8) (v := ?_) rfl (by kernel_rfl) (by kernel_rfl) (by kernel_rfl) (fun _ _ _ h => h) (Or.inl ⟨by rfl, ?_⟩) hHeld ?_
  rotate_left
  · intro w' hSw
    clear hSw
    go_simp
    first | done | with_reducible rfl
  simp only [Act.put, List.getElem_toArray, List.getElem_cons_succ, List.getElem_cons_zero, List.setIfInBounds_toArray, List.set_cons_zero, List.set_cons_succ]
  refine wpAnyH_done (by kernel_rfl) ?_ _
  go_wp2
  go_ret
  exact ⟨rfl, HB1.out⟩
theorem tab_same {w w' : World} (h : w'.heap[0]? = w.heap[0]?) (ht : Tab w) : Tab w' := fun k hk => (cell_same h).trans (ht k hk)
/-- What under hands back. -/
def UnP (w : World) (es : List Fe) (m : Nat → Int) (e : Ending) (w' : World) : Prop := ∃ (v : Value) (ds : List Fe), e = .returned v ∧ ds.Perm es ∧ (ds.Pairwise fun a b => ltE b a = false) ∧ Below w.heap.size w w' ∧ Rw (fun b => w.heap.size ≤ b) 1 96 w' v (ds.filter fun e => und e.r.mt m).length (eps (ds.filter fun e => und e.r.mt m))
set_option maxHeartbeats 1600000 in
set_option maxRecDepth 100000 in
theorem sunder_any {S : Nat → Prop} {o : Nat → Fg} (w : World) (g : Nat) (vm : Value) (br bp bg : Nat) (Gr Gp Gg : Lit → Option Value) (room : Int) (es : List Fe) (gs : List Ge) (ad : Int) (h : FlM S o w g vm br bp bg Gr Gp Gg room es gs ad) (hI : FInv Gr Gp Gg room es gs ad) (m : Nat → Int) (ht : Tab w) : Calls Tryz.prog 45 #[pv g, mv m] w (UnP w es m) := by
  obtain ⟨W0, hW0⟩ : ∃ W0, W0 = w.alloc (.cells (row 22 m) 32) := ⟨_, rfl⟩
  have hB0 : Below w.heap.size w W0 := by rw [hW0]; exact (Below.refl _ _).alloc (Nat.le_refl _) _
  have hs0 : W0.heap.size = w.heap.size + 1 := by rw [hW0]; simp
  have hX0 : Blk W0 w.heap.size 22 32 m := by rw [hW0]; exact heap_alloc_new _ _
  have hF0 : FlM S o W0 g vm br bp bg Gr Gp Gg room es gs ad := h.carry fun b hb hS => ⟨hS, rfl, hB0.block b hb⟩
  have HO := hid (inOrder_any W0 g vm br bp bg Gr Gp Gg room es gs ad hF0 hI)
  have hlen : es.length < 2147483647 := by have := hI.len; have := hI.rm; omega
  have HD : Hid (∀ w1 v ds, ds.Perm es → (ds.Pairwise fun a b => ltE b a = false) → Below W0.heap.size W0 w1 → Rw (fun b => W0.heap.size ≤ b) 1 96 w1 v ds.length (eps ds) → Calls Tryz.prog 83 #[v, cl2 w.heap.size] w1 fun e w' => (∃ v', e = .returned v') ∧ UnP w es m e w') := fun w1 v ds hp hso hb hR => by
    have hB1 := hB0.trans (hb.mono hB0.size)
    have own : ∀ k, v.ownBlock = some k → W0.heap.size ≤ k := fun k hk => hR.own k hk
    have hC : Clo w1 v ds w.heap.size fun e => !und e.r.mt m := fun wx hA e he => by
      have he' := hp.subset he
      have hE := (h.ent e he').h
      have hpl := (Array.getElem?_eq_some_iff.1 hE).1
      have old : ∀ k, k < w.heap.size + 1 → wx.heap[k]? = w1.heap[k]? := fun k hk => hA.block k (by have := hb.size; omega) (fun e => by have := own k e; omega)
      have h1 : wx.heap[e.p]? = some (.cells (fec e) 104 (0, 0)) := by rw [old e.p (by omega), hB1.block e.p hpl]; exact hE
      have h2 : Blk wx w.heap.size 22 32 m := by
        show wx.heap[w.heap.size]? = _
        rw [old _ (by omega), hb.block _ (by omega)]; exact hX0
      have h3 : Tab wx := tab_same (by rw [old 0 (by omega), hB1.block 0 ht.pos]) ht
      exact under1_any e.p w.heap.size e.r.mt m wx ⟨fec_range h1, blk_range h2⟩ h3
    refine (delC_any w1 v ds w.heap.size _ hR hC (by rw [hp.length_eq]; exact hlen)).mono ?_
    rintro e w' ⟨v', rfl, hA, hR'⟩
    have e1 : flt ds (fun e => !und e.r.mt m) = ds.filter fun e => und e.r.mt m := by unfold flt; simp
    rw [e1] at hR'
    refine ⟨⟨v', rfl⟩, v', ds, rfl, hp, hso, ⟨hA.os.trans hB1.os, hA.tape.trans hB1.tape, hA.output.trans hB1.output, Nat.le_trans hB1.size hA.size, fun k hk => ?_⟩, hR'.carry fun b _ hb' => ⟨Nat.le_trans hB0.size hb', rfl⟩⟩
    rw [hA.block k (Nat.lt_of_lt_of_le hk hB1.size) (fun e => by have := own k e; omega), hB1.block k hk]
  have HW0 := hid hW0
  clear h hI ht hB0 hs0 hX0 hF0 hW0
  go_enter Tryz.func45, Tryz.ntmps45
  go_upto_region 1 with fail
  rw [← HW0.out]
  clear HW0
  go_wp2_with (first
    | (go_at_call 54; refine (HO.out).mono ?_; rintro e w1 ⟨v, ds, rfl, q1, q2, q3, q4⟩; have HDD := hid (HD.out w1 v ds q1 q2 q3 q4); clear q1 q2 q3 q4 HO)
    | (go_at_call 83; refine (HDD.out).mono ?_; rintro e w2 ⟨⟨v', rfl⟩, hu⟩; have HU := hid hu; clear hu HDD))
  go_ret
  exact HU.out
theorem zero_pc : pc 0 zf = #[.int .i64 0, .int .u64 0, .int .u64 0, .int .u64 0, .int .u64 0, .int .u64 0, .int .u64 0, .int .u64 0, .int .u64 0, .int .u64 0, .int .u64 0, .int .u64 0, .int .u64 0, .int .u64 0, .int .u64 0, .int .u64 0, .int .u64 0, .int .u64 0, .int .u64 0, .int .u64 0, .int .u64 0, .int .u64 0, .int .u64 0] := by kernel_rfl
theorem runBldP {o : Oper} {a : Act} {w : World} (x y : Operand) (ho : o.op = .build 174 #[(0, x), (1, y)]) (r : Int) (m : Nat → Int) (hx : a.eval x = .int .i64 r) (hy : a.eval y = mv m) : (execOp a.eval o).run Tryz.prog w = .ok (.value (.agg (pc r m))) w := by
  unfold execOp
  simp only [ho, hx, hy, List.map_toArray, List.map_cons, List.map_nil, Sem.run_bind, Sem.run_pure]
  show _ = _
  kernel_rfl
theorem bldP {ops : Array Oper} {rest : List Oper} {o : Oper} {a : Act} {w : World} {Q : Exit → Act → World → Prop} (x y : Operand) (ho : o.op = .build 174 #[(0, x), (1, y)]) (hw : Region.wanted o (yielded ops a.tmps) = true) (r : Int) (m : Nat → Int) (hx : a.eval x = .int .i64 r) (hy : a.eval y = mv m)
    (h : wpList Tryz.prog ops Q rest (a.put o.dst (.agg (pc r m))) w) : wpList Tryz.prog ops Q (o :: rest) a w := by
  unfold wpList
  rw [if_pos hw]
  refine Or.inl ?_
  show Oper.upon Tryz.prog o a _ Q ((execOp a.eval o).run Tryz.prog w)
  rw [runBldP x y ho r m hx hy]
  exact h
theorem pc_one (r : Int) (m : Nat → Int) : (pc r m).all (·.oneCell') = true := by
  unfold pc
  rw [Array.all_append, row_one]
  simp [show (Value.int .i64 r).oneCell' = true from rfl]
theorem size_pc (r : Int) (m : Nat → Int) : (Tryz.prog.info? 174).map (·.size) = some (pc r m).size := by rw [pc_size]; kernel_rfl
set_option maxHeartbeats 1600000 in
set_option maxRecDepth 100000 in
theorem placeOf_any (w : World) (r : Rl) (u : Value) : Calls Tryz.prog 86 #[.agg (rlc r u)] w fun e w' => e = .returned (.agg (pc r.rk r.mt)) ∧ Below w.heap.size w w' := by
  obtain ⟨W0, hW0⟩ : ∃ W0, W0 = (w.alloc (.cells (rlc r u) 35)).alloc (.cells (pc 0 zf) 174) := ⟨_, rfl⟩
  have hB0 : Below w.heap.size w W0 := by rw [hW0]; exact ((Below.refl _ _).alloc (Nat.le_refl _) _).alloc (by simp) _
  have hX0 : W0.heap[w.heap.size]? = some (.cells (rlc r u) 35 (0, 0)) := by rw [hW0, heap_alloc_old _ _ (by simp)]; exact heap_alloc_new _ _
  have hY0 : W0.heap[w.heap.size + 1]? = some (.cells (pc 0 zf) 174 (0, 0)) := by
    have := heap_alloc_new (w.alloc (.cells (rlc r u) 35)) (.cells (pc 0 zf) 174)
    rw [World.size_alloc] at this
    rw [hW0]; exact this
  have q0 : W0.cell? ⟨w.heap.size, 0, none⟩ = some (.int .i64 r.rk) := by rw [cell_of_row _ _ _ _ _ _ hX0]; exact rc_rank _ _ _ _
  have HR : Hid (W0.rangeAt w.heap.size 1 (row 22 r.mt).toList) := range_of fun i hi => by
    rw [row_size] at hi
    rw [cell_of_row _ _ _ _ _ _ hX0, row_at 22 _ _ hi]; exact rc_mat _ _ _ _ _ hi
  have HZ := hid hY0
  have HWr := hid (setRow_heap W0 (w.heap.size + 1) (pc 0 zf) (pc r.rk r.mt) 174 (0, 0) hY0)
  have HL := hid (below_setRow hB0 (by omega : w.heap.size ≤ w.heap.size + 1) (pc r.rk r.mt))
  have HW0 := hid hW0
  clear hB0 hX0 hY0 hW0
  go_enter Tryz.func86, Tryz.ntmps86
  go_upto_region 1 with fail
  rw [← zero_pc, ← HW0.out]
  clear HW0
  go_wp2_with (first
    | (refine ldMid 32 (.tmp 5) rfl rfl w.heap.size 1 rfl (row 22 r.mt) _ Tryz.underlying32 rfl (size26 _) HR.out ?_)
    | (refine bldP (.tmp 4) (.tmp 6) rfl rfl r.rk r.mt rfl rfl ?_)
    | (refine stRow 174 (.tmp 2) (.tmp 7) rfl rfl (w.heap.size + 1) (pc r.rk r.mt) rfl rfl 174 (pc 0 zf) HZ.out (size_pc _ _) (by rw [pc_size, pc_size]) (pc_one _ _) ?_))
  exact bodyPost_ret (v := .agg (pc r.rk r.mt)) (results_cell_row Tryz.results86 _ _ (w.heap.size + 1) 174 _ (0, 0) _ rfl HWr.out Tryz.underlying174 rfl (size_pc _ _)) rfl ⟨rfl, HL.out⟩
end Go.Proofs.YtdehlnaoehjehaaGreatDoor
