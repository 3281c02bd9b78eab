/-
  Proved here: Read and Answer of the document's package answer what 'rdV', 'anE', 'anL' say, for every packet; no old memory turns. Conditions: the numbers are unsigned, of 64 bits.
-/
import Derived.Test.YtioohgcaakcgaaaDoorJ6
namespace Go.Proofs.YtioohgcaakcgaaaDoor
open Go.RowKit

theorem isOp_len {bs : List Int} (hl : bs.length ≠ 1) : isOp bs = false := by
  cases h : isOp bs
  · rfl
  · rcases isOp_one h with rfl | rfl <;> exact absurd rfl hl
theorem isOp_at {bs : List Int} (hl : bs.length = 1) : isOp bs = (bs.getD 0 0 == 1 || bs.getD 0 0 == 2) := by
  match bs, hl with
  | [x], _ => simp [isOp]

set_option maxHeartbeats 1600000 in
/-- WHAT THE DOCUMENT's Read ANSWERS. -/
theorem rread_any (B : Nat) (h : Nat → Int) (vb : Value) (bs : List Int) (w : World) (hB : B ≤ w.heap.size) (hs : Sl B w vb bs) (h0 : ∀ k, 0 ≤ h k) :
    Calls Tryd.prog 15 #[pv h vb] w fun e w' => e = .returned (rdV h bs) ∧ Below w.heap.size w w' := by
  have K0 := PBlk.new w h vb
  have hl0 : Below w.heap.size w (w.alloc (.cells (prow h vb) 32)) := (Below.refl _ _).alloc (Nat.le_refl _) _
  have HS : Hid (Sl B (w.alloc (.cells (prow h vb) 32)) vb bs) := hs.on (hl0.mono hB)
  clear hs
  go_enter Tryd.func15, Tryd.ntmps15
  go_wp2_with (refine ldPH (.tmp 7) rfl _ rfl rfl h vb (by exact K0) ?_)
  go_fit (rcheck_any h _)
  rintro e w1 ⟨rfl, hb1⟩
  rw [rchk_eq]
  have HL : Hid (Below w.heap.size w w1) := hl0.trans (hb1.mono hl0.size)
  have K1 : PBlk w1 w.heap.size h vb := K0.on hb1
  have S1 : Sl B w1 vb bs := HS.out.on (hb1.mono (Nat.le_trans hB hl0.size))
  have hlen := S1.len
  have hat := S1.isB.at 0
  have c0 := K1.cell 0 (by omega)
  have c2 := K1.cell 2 (by omega)
  have c4 := K1.cell 4 (by omega)
  have c5 := K1.cell 5 (by omega)
  have c11 := K1.last
  obtain ⟨ao, cap, rfl, _, _, _, _, q5⟩ := S1
  clear K0 HS hl0 hb1 K1
  cases h1 : hOk h
  · have e1 : chk h = 10 := by simp [chk, h1]
    have HV : Hid (rdV h bs = _) := rdV_no (h := h) (bs := bs) (by simp [some4, h1])
    rw [e1]
    clear e1 h1 q5 h0
    go_wp2
    (try simp only [Exit.inBlock, Exit.then]); refine bodyPost_ret (results_tmp5 rfl _ _ _) rfl ?_
    exact ⟨by rw [HV.out]; rfl, HL.out⟩
  · have e1 : chk h = 0 := by simp [chk, h1]
    rw [e1]
    clear e1
    cases h2 : (h 2 != 2054)
    · by_cases h3 : bs.length = 1
      · have hd3 : ((bs.length : Int) != 1) = false := by simp [h3]
        obtain ⟨b, o, _, rfl, hcl⟩ := q5 (fun e => by subst e; simp at h3)
        obtain ⟨x, hx⟩ : ∃ x, x = bs.getD 0 0 := ⟨_, rfl⟩
        have hc := hcl 0 (by omega)
        rw [Nat.add_zero, ← hx] at hc
        have hi := isOp_at h3
        have h2' : h 2 = 2054 := by simpa using h2
        rw [← hx] at hi hat
        have HX : Hid (x = bs.getD 0 0) := hx
        have hpos : 0 < bs.length := by omega
        by_cases x1 : x = 1
        · have HV : Hid (rdV h bs = _) := rdV_yes h0 (by simp [some4, h1, h2', hi, x1])
          have d1 : (x != 1) = false := by simp [x1]
          clear h3 hcl hx h1 h2' hi x1 h0 q5
          go_wp2
          go_region
          go_wp2
          (try simp only [Exit.inBlock, Exit.then]); refine bodyPost_ret (results_tmp5 rfl _ _ _) rfl ?_
          exact ⟨by rw [HV.out, ← HX.out]; rfl, HL.out.drew⟩
        · have d1 : (x != 1) = true := by simp [x1]
          by_cases x2 : x = 2
          · have HV : Hid (rdV h bs = _) := rdV_yes h0 (by simp [some4, h1, h2', hi, x2])
            have d2 : (x != 2) = false := by simp [x2]
            clear h3 hcl hx h1 h2' hi x1 x2 h0 q5
            go_wp2
            go_region
            go_wp2
            (try simp only [Exit.inBlock, Exit.then]); refine bodyPost_ret (results_tmp5 rfl _ _ _) rfl ?_
            exact ⟨by rw [HV.out, ← HX.out]; rfl, HL.out.drew⟩
          · have HV : Hid (rdV h bs = _) := rdV_no (h := h) (bs := bs) (by simp [some4, hi, x1, x2])
            have d2 : (x != 2) = true := by simp [x2]
            clear h3 hcl hx h1 h2' hi x1 x2 h0 q5
            go_wp2
            (try simp only [Exit.inBlock, Exit.then]); refine bodyPost_ret (results_tmp5 rfl _ _ _) rfl ?_
            exact ⟨by rw [HV.out]; rfl, HL.out⟩
      · have hd3 : ((bs.length : Int) != 1) = true := by simp; omega
        have HV : Hid (rdV h bs = _) := rdV_no (h := h) (bs := bs) (by simp [some4, isOp_len h3])
        clear h3 q5 h0 h1
        go_wp2
        (try simp only [Exit.inBlock, Exit.then]); refine bodyPost_ret (results_tmp5 rfl _ _ _) rfl ?_
        exact ⟨by rw [HV.out]; rfl, HL.out⟩
    · have h2' : ¬ h 2 = 2054 := by simpa using h2
      have HV : Hid (rdV h bs = _) := rdV_no (h := h) (bs := bs) (some4_not h2')
      clear q5 h0 h1 h2'
      go_wp2
      (try simp only [Exit.inBlock, Exit.then]); refine bodyPost_ret (results_tmp5 rfl _ _ _) rfl ?_
      exact ⟨by rw [HV.out]; rfl, HL.out⟩

set_option maxHeartbeats 800000 in
/-- WHAT THE DOCUMENT's Answer ANSWERS. -/
theorem ranswer_any (B : Nat) (mac : Int) (h : Nat → Int) (vb : Value) (bs : List Int) (w : World) (hB : B ≤ w.heap.size) (hs : Sl B w vb bs) (h0 : ∀ k, 0 ≤ h k) (m0 : 0 ≤ mac) (m1 : mac < 18446744073709551616) :
    Calls Tryd.prog 13 #[.int .u64 mac, pv h vb] w fun e w' => ∃ v', e = .returned (.tuple #[v', .int .i64 (anE mac h bs)]) ∧ Below w.heap.size w w' ∧ Owns w.heap.size w' v' (anL mac h bs) := by
  have K0 := PBlk.new w h vb
  have hl0 : Below w.heap.size w (w.alloc (.cells (prow h vb) 32)) := (Below.refl _ _).alloc (Nat.le_refl _) _
  have HS : Hid (Sl B (w.alloc (.cells (prow h vb) 32)) vb bs) := hs.on (hl0.mono hB)
  clear hs
  go_enter Tryd.func13, Tryd.ntmps13
  go_wp2_with (refine ld27 (.tmp 3) rfl _ rfl rfl h vb (by exact K0) ?_)
  go_fit (rread_any B h vb bs _ (Nat.le_trans hB hl0.size) HS.out h0)
  rintro e w1 ⟨rfl, hb1⟩
  have HL : Hid (Below w.heap.size w w1) := hl0.trans (hb1.mono hl0.size)
  unfold rdV
  clear K0 HS hl0 hb1
  cases hq : rdA h bs
  · have HE : Hid (anE mac h bs = 30 ∧ anL mac h bs = []) := by show _ ∧ _; simp [anE, anL, anOk, hq]
    clear hq
    cases hs4 : some4 h bs
    · go_wp2
      go_ret2
      exact ⟨nilS, by rw [HE.out.1]; rfl, HL.out, by rw [HE.out.2]; exact Owns.isNil⟩
    · go_wp2
      go_ret2
      exact ⟨nilS, by rw [HE.out.1]; rfl, HL.out, by rw [HE.out.2]; exact Owns.isNil⟩
  · obtain ⟨e0, e4, e5, b0, b4, b5⟩ := rdA_parts h0 hq
    have p0 := h0 0; have p4 := h0 4; have p5 := h0 5
    have hs4 : some4 h bs = true := by simp only [rdA, Bool.and_eq_true] at hq; exact hq.1
    rw [e0, e4, e5, hs4]
    by_cases hm : mac < 281474976710656
    · have hd : (mac / 281474976710656 != 0) = false := by simp; omega
      have HE : Hid (anE mac h bs = 0 ∧ anL mac h bs = frL (h 0) mac 2 (h 5) (h 0) (h 4)) := by show _ ∧ _; simp [anE, anL, anOk, hq, hm]
      clear hq e0 e4 e5 hs4 hm
      go_wp2_with fail
      go_fit (rframe_any (h 0) mac 2 (h 5) (h 0) (h 4) w1)
      rintro e w2 ⟨v2, rfl, hb2, hO2⟩
      have HL2 : Hid (Below w.heap.size w w2) := HL.out.trans (hb2.mono HL.out.size)
      have HQ : Hid (Owns w.heap.size w2 v2 (frL (h 0) mac 2 (h 5) (h 0) (h 4))) := hO2.mono HL.out.size
      clear hb2 hO2 HL
      go_wp2
      go_ret2
      exact ⟨v2, by rw [HE.out.1]; rfl, HL2.out, by rw [HE.out.2]; exact HQ.out⟩
    · have hd : (mac / 281474976710656 != 0) = true := by simp; omega
      have HE : Hid (anE mac h bs = 30 ∧ anL mac h bs = []) := by show _ ∧ _; simp [anE, anL, anOk, hq, hm]
      clear hq e0 e4 e5 hs4 hm
      go_wp2
      go_ret2
      exact ⟨nilS, by rw [HE.out.1]; rfl, HL.out, by rw [HE.out.2]; exact Owns.isNil⟩
end Go.Proofs.YtioohgcaakcgaaaDoor
