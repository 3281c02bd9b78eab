/-
  Proved here: Read and Answer of package arp answer what 'rdA', 'rdN', 'some4', 'anE', 'anL' say, for every packet; no old memory turns. Conditions: the widths' table holds its eleven numbers; the numbers are unsigned, of 64 bits.
-/
import Derived.Test.YtioohgcaakcgaaaDoorJ2
namespace Go.Proofs.YtioohgcaakcgaaaDoor
open Go.RowKit

theorem results_tmp5 {fn : Func} {t u v x y : Tmp} (h : fn.results = #[.tmp t, .tmp u, .tmp v, .tmp x, .tmp y]) (tmps : Array Value) (P : Program) (w : World) :
    (results fn tmps).run P w = .ok (.tuple #[tmps.getD t undef, tmps.getD u undef, tmps.getD v undef, tmps.getD x undef, tmps.getD y undef]) w := by
  simp [results, h]
theorem wrap32 {a : Int} (h0 : 0 ≤ a) (h1 : a < 4294967296) : IntKind.u32.wrap a = a := by
  rw [IntKind.wrap_u32]; exact Int.emod_eq_of_lt h0 h1
/-- What Read tells, as one value. -/
def rdV (h : Nat → Int) (bs : List Int) : Value := .tuple #[.bool (rdA h bs), .int .u64 (rdN h bs 0), .int .u32 (rdN h bs 4), .int .u32 (rdN h bs 5), .bool (some4 h bs)]
theorem rdV_no {h : Nat → Int} {bs : List Int} (e : some4 h bs = false) : rdV h bs = .tuple #[.bool false, .int .u64 0, .int .u32 0, .int .u32 0, .bool false] := by
  simp [rdV, rdA, rdN, e]
theorem rdV_yes {h : Nat → Int} {bs : List Int} (h0 : ∀ k, 0 ≤ h k) (e : some4 h bs = true) : rdV h bs = .tuple #[.bool (bs.getD 0 0 == 1), .int .u64 (h 0), .int .u32 (IntKind.u32.wrap (h 4)), .int .u32 (IntKind.u32.wrap (h 5)), .bool true] := by
  have hv := (hOk_iff h0).1 (some4_parts e).1
  unfold Vd at hv
  rw [wrap32 (h0 4) (by omega), wrap32 (h0 5) (by omega)]
  simp [rdV, rdA, rdN, e]

set_option maxHeartbeats 800000 in
/-- WHAT Read ANSWERS. -/
theorem read_any (B : Nat) (h : Nat → Int) (vb : Value) (bs : List Int) (w : World) (hw : Tab w) (hB : B ≤ w.heap.size) (hs : Sl B w vb bs) (h0 : ∀ k, 0 ≤ h k) :
    Calls Tryd.prog 14 #[pv h vb] w fun e w' => e = .returned (rdV h bs) ∧ Below w.heap.size w w' := by
  have K0 := PBlk.new w h vb
  have hl0 : Below w.heap.size w (w.alloc (.cells (prow h vb) 32)) := (Below.refl _ _).alloc (Nat.le_refl _) _
  have HT : Hid (Tab (w.alloc (.cells (prow h vb) 32))) := hw.on hl0
  have HS : Hid (Sl B (w.alloc (.cells (prow h vb) 32)) vb bs) := hs.on (hl0.mono hB)
  clear hw hs
  go_enter Tryd.func14, Tryd.ntmps14
  go_wp2_with (refine ld27 (.tmp 1) rfl _ rfl rfl h vb (by exact K0) ?_)
  go_fit (isSome_any B h vb bs _ HT.out (Nat.le_trans hB hl0.size) HS.out)
  rintro e w1 ⟨rfl, hb1⟩
  have HL : Hid (Below w.heap.size w w1) := hl0.trans (hb1.mono hl0.size)
  have K1 : PBlk w1 w.heap.size h vb := K0.on hb1
  have S1 : Sl B w1 vb bs := HS.out.on (hb1.mono (Nat.le_trans hB hl0.size))
  clear K0 HT HS hl0 hb1
  cases hq : some4 h bs
  · have HV : Hid (rdV h bs = _) := rdV_no hq
    clear S1 K1 hq
    go_wp2
    (try simp only [Exit.inBlock, Exit.then]); refine bodyPost_ret (results_tmp5 rfl _ _ _) rfl ?_
    exact ⟨by rw [HV.out]; rfl, HL.out⟩
  · have HV : Hid (rdV h bs = _) := rdV_yes h0 hq
    have hne : bs ≠ [] := by rcases (some4_parts hq).2.2 with rfl | rfl <;> simp
    obtain ⟨ao, cap, rfl, q1, q2, q3, q4, q5⟩ := S1
    obtain ⟨b, o, _, rfl, hcl⟩ := q5 hne
    have hpos : 0 < bs.length := List.length_pos_iff.2 hne
    obtain ⟨x, hx⟩ : ∃ x, x = bs.getD 0 0 := ⟨_, rfl⟩
    have hc := hcl 0 hpos
    rw [Nat.add_zero, ← hx] at hc
    have HX : Hid (x = bs.getD 0 0) := hx
    have c0 := K1.cell 0 (by omega)
    have c4 := K1.cell 4 (by omega)
    have c5 := K1.cell 5 (by omega)
    have c11 := K1.last
    clear K1 q1 q2 q3 q4 q5 hcl hne hx hq h0
    go_wp2
    go_region
    go_wp2
    (try simp only [Exit.inBlock, Exit.then]); refine bodyPost_ret (results_tmp5 rfl _ _ _) rfl ?_
    exact ⟨by rw [HV.out, ← HX.out]; rfl, HL.out.drew⟩

theorem rdA_parts {h : Nat → Int} {bs : List Int} (h0 : ∀ k, 0 ≤ h k) (e : rdA h bs = true) : rdN h bs 0 = h 0 ∧ rdN h bs 4 = h 4 ∧ rdN h bs 5 = h 5 ∧ h 0 < 281474976710656 ∧ h 4 < 4294967296 ∧ h 5 < 4294967296 := by
  simp only [rdA, Bool.and_eq_true] at e
  have hv := (hOk_iff h0).1 (some4_parts e.1).1
  unfold Vd at hv
  exact ⟨by simp [rdN, e.1], by simp [rdN, e.1], by simp [rdN, e.1], by omega, by omega, by omega⟩
set_option maxHeartbeats 800000 in
/-- WHAT Answer ANSWERS. -/
theorem answer_any (B : Nat) (mac : Int) (h : Nat → Int) (vb : Value) (bs : List Int) (w : World) (hw : Tab w) (hB : B ≤ w.heap.size) (hs : Sl B w vb bs) (h0 : ∀ k, 0 ≤ h k) (m0 : 0 ≤ mac) :
    Calls Tryd.prog 12 #[.int .u64 mac, pv h vb] w fun e w' => ∃ v', e = .returned (.tuple #[v', .int .i64 (anE mac h bs)]) ∧ Below w.heap.size w w' ∧ Owns w.heap.size w' v' (anL mac h bs) := by
  have K0 := PBlk.new w h vb
  have hl0 : Below w.heap.size w (w.alloc (.cells (prow h vb) 32)) := (Below.refl _ _).alloc (Nat.le_refl _) _
  have HT : Hid (Tab (w.alloc (.cells (prow h vb) 32))) := hw.on hl0
  have HS : Hid (Sl B (w.alloc (.cells (prow h vb) 32)) vb bs) := hs.on (hl0.mono hB)
  clear hw hs
  go_enter Tryd.func12, Tryd.ntmps12
  go_wp2_with (refine ld27 (.tmp 3) rfl _ rfl rfl h vb (by exact K0) ?_)
  go_fit (read_any B h vb bs _ HT.out (Nat.le_trans hB hl0.size) HS.out h0)
  rintro e w1 ⟨rfl, hb1⟩
  have HL : Hid (Below w.heap.size w w1) := hl0.trans (hb1.mono hl0.size)
  have HT1 : Hid (Tab w1) := HT.out.on hb1
  unfold rdV
  clear K0 HT HS hl0 hb1
  cases hq : rdA h bs
  · have HE : Hid (anE mac h bs = 30 ∧ anL mac h bs = []) := by show _ ∧ _; simp [anE, anL, anOk, hq]
    clear hq HT1
    go_wp2
    go_ret2
    exact ⟨nilS, by rw [HE.out.1]; rfl, HL.out, by rw [HE.out.2]; exact Owns.isNil⟩
  · obtain ⟨e0, e4, e5, b0, b4, b5⟩ := rdA_parts h0 hq
    have p0 := h0 0; have p4 := h0 4; have p5 := h0 5
    rw [e0, e4, e5]
    have HN : Hid (Nums mac (h 0) (h 5) (h 4)) := ⟨m0, p0, p5, b5, p4, b4⟩
    have HF : Hid (fit mac (h 0) = decide (mac < 281474976710656)) := by show _ = _; simp [fit, b0]
    have HE : Hid (anE mac h bs = (if fit mac (h 0) = true then 0 else 30) ∧ anL mac h bs = blL 2 mac (h 0) (h 5) (h 4)) := by
      show _ ∧ _
      rw [HF.out]
      simp [anE, anL, anOk, hq, blL, HF.out]
    clear hq e0 e4 e5
    go_wp2_with fail
    go_fit (bld_any 2 mac (h 0) (h 5) (h 4) w1 HT1.out (Or.inr rfl) HN.out)
    rintro e w2 ⟨v2, rfl, hb2, hO2⟩
    have HL2 : Hid (Below w.heap.size w w2) := HL.out.trans (hb2.mono HL.out.size)
    have HQ : Hid (Owns w.heap.size w2 v2 (blL 2 mac (h 0) (h 5) (h 4))) := hO2.mono HL.out.size
    clear hb2 hO2 HL HN HT1
    cases hf : fit mac (h 0)
    · have HZ : Hid (anE mac h bs = 30 ∧ anL mac h bs = []) := by
        refine ⟨?_, ?_⟩
        · rw [HE.out.1, hf]; rfl
        · rw [HE.out.2]; simp [blL, hf]
      clear hf HE
      go_wp2
      go_ret2
      exact ⟨nilS, by rw [HZ.out.1]; rfl, HL2.out, by rw [HZ.out.2]; exact Owns.isNil⟩
    · have HZ : Hid (anE mac h bs = 0) := by show _ = _; rw [HE.out.1, hf]; rfl
      clear hf
      go_wp2
      go_ret2
      exact ⟨v2, by rw [HZ.out]; rfl, HL2.out, by rw [HE.out.2]; exact HQ.out⟩
end Go.Proofs.YtioohgcaakcgaaaDoor
