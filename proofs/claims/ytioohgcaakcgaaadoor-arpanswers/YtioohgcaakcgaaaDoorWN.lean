/-
  Proved here: ArpAnswers's body returns true for every address and packet; no old memory turns. Conditions: the widths' table holds its eleven numbers; the numbers are unsigned, of 64 bits.
-/
import Derived.Test.YtioohgcaakcgaaaDoorJ7
import Derived.Deep.DeepCutAuto
namespace Go.Proofs.YtioohgcaakcgaaaDoor
open Go.RowKit

theorem prow_setLast (h : Nat → Int) (v u : Value) : (prow h v).setIfInBounds 11 u = prow h u := by
  apply Array.ext_getElem?
  intro k
  rw [Array.getElem?_setIfInBounds]
  by_cases e : 11 = k
  · subst e
    rw [if_pos rfl, if_pos (by rw [prow_size]; omega), prow_last]
  · rw [if_neg e]
    by_cases hk : k < 11
    · rw [prow_at _ _ k hk, prow_at _ _ k hk]
    · rw [Array.getElem?_eq_none (by rw [prow_size]; omega), Array.getElem?_eq_none (by rw [prow_size]; omega)]
theorem PBlk.setLast {w : World} {b : Nat} {h : Nat → Int} {v : Value} (hh : PBlk w b h v) (u : Value) : PBlk (w.setCell ⟨b, 11, none⟩ u) b h u := by
  unfold PBlk; rw [heap_setCell_same w b 11 _ 32 _ hh, prow_setLast h v u]
/-- A packet's bytes are stored. -/
theorem st25P {ops : Array Oper} {rest : List Oper} {o : Oper} {a : Act} {w : World} {Q : Exit → Act → World → Prop} (x y : Operand) (ho : o.op = .store 25 x y) (g : Nat) (hx : a.eval x = .pointer (some ⟨g, 11, none⟩)) (ao : Option Addr) (n c : Nat) (hy : a.eval y = .slice ao n c) (hw : Region.wanted o (yielded ops a.tmps) = true) (f : Nat → Int) (u : Value) (hg : PBlk w g f u)
    (h : wpList Tryd.prog ops Q rest (a.put o.dst undef) (w.setCell ⟨g, 11, none⟩ (.slice ao n c))) : wpList Tryd.prog ops Q (o :: rest) a w := by
  unfold wpList
  rw [if_pos hw]
  refine Or.inl ?_
  have hs : (sizeOf 25).run Tryd.prog w = .ok 1 w := by
    have h1 : (Tryd.prog.info? 25).map (·.size) = some 1 := by kernel_rfl
    cases hq : Tryd.prog.info? 25 with
    | none => simp [hq] at h1
    | some i =>
      have hs : i.size = 1 := by simpa [hq] using h1
      simp [sizeOf, typeInfo, hq, hs]
  have hc := run_storeCells_cells (P := Tryd.prog) g 11 [.slice ao n c] 0 w (fun i hi => by
    have : i = 0 := by simpa using hi
    subst this; simp [hg.last]) (fun i _ => hg.frozen _) (fun u hu => by
    have : u = .slice ao n c := by simpa using hu
    subst this; rfl)
  simp only [Nat.add_zero] at hc
  unfold Oper.wp execOp
  simp only [ho, hx, hy, Instr.storeAt, Instr.sureAddr, storeVar, Value.cells, Sem.run_bind, Sem.run_pure, Result.andThen_ok, hs, hc, List.size_toArray, List.length_cons, List.length_nil, Nat.zero_add, ne_eq, not_true_eq_false, if_false, Sem.run_ite]
  exact h
theorem owns_empty {base : Nat} (w : World) (hb : base ≤ w.heap.size) : Owns base (w.alloc (.cells #[] 5)) (.slice (some ⟨w.heap.size, 0, none⟩) 0 0) [] :=
  ⟨by simp, Or.inr ⟨w.heap.size, 0, #[], rfl, hb, heap_alloc_new _ _, by simp, by unfold maxLen; omega, by simp, by simp⟩⟩

set_option maxHeartbeats 3200000 in
/-- ArpAnswers. -/
theorem answers_any (B : Nat) (mac : Int) (h : Nat → Int) (vb : Value) (bs : List Int) (w : World) (hs : Sl B w vb bs) (hB : B ≤ w.heap.size) (hw : Tab w) (hb : ∀ k, 0 ≤ h k ∧ h k < 18446744073709551616) (m0 : 0 ≤ mac) (m1 : mac < 18446744073709551616) :
    Calls Tryd.prog 4 #[.int .u64 mac, pv h vb] w fun e w' => e = .returned (.bool true) ∧ Below w.heap.size w w' := by
  have h0 : Hid (∀ k, 0 ≤ h k) := fun k => (hb k).1
  have K0 := PBlk.new w h vb
  have l1 : Below w.heap.size w (w.alloc (.cells (prow h vb) 32)) := (Below.refl _ _).alloc (Nat.le_refl _) _
  have HL1 : Hid (Below w.heap.size w (w.alloc (.cells (prow h vb) 32))) := l1
  have HT1 : Hid (Tab (w.alloc (.cells (prow h vb) 32))) := hw.on l1
  have HS1 : Hid (Sl B (w.alloc (.cells (prow h vb) 32)) vb bs) := hs.on (l1.mono hB)
  have hlen := hs.len
  obtain ⟨ao, cap, rfl, _⟩ := hs
  have c11 := K0.last
  have HK0 : Hid (PBlk (w.alloc (.cells (prow h (.slice ao bs.length cap)) 32)) w.heap.size h (.slice ao bs.length cap)) := K0
  clear hw hb l1 K0
  by_cases hl : 4096 < bs.length
  · have hd : decide ((4096 : Int) < (bs.length : Int)) = true := by simp; omega
    clear HS1 HK0
    go_enter Tryd.func4, Tryd.ntmps4
    go_wp2_with (go_at_call 11; refine (wakes_any _ HT1.out).mono ?_; rintro e w4 ⟨rfl, hb4⟩)
    go_ret
    exact ⟨rfl, HL1.out.trans (hb4.mono HL1.out.size)⟩
  · have hd : decide ((4096 : Int) < (bs.length : Int)) = false := by simp; omega
    have HLEN : Hid (bs.length ≤ 4096) := by show _ ≤ _; omega
    go_enter Tryd.func4, Tryd.ntmps4
    go_upto_region 3 with fail
    obtain ⟨u1, hu1⟩ : ∃ u, u = w.alloc (.cells (prow h (.slice ao bs.length cap)) 32) := ⟨_, rfl⟩
    have s1 : Hid (w.heap.size < u1.heap.size) := by show _ < _; rw [hu1]; simp
    rw [← hu1] at HK0 HL1 HT1 HS1 ⊢
    clear hu1 c11
    go_upto_region 4 with (first | (refine alc27 rfl rfl ?_) | (refine ld27 (.tmp 3) rfl _ rfl rfl h _ (by exact HK0.out) ?_) | (refine st27n (.tmp 5) (.tmp 15) rfl u1 zf nilS rfl rfl h _ rfl rfl rfl ?_))
    obtain ⟨u2, hu2⟩ : ∃ u, u = u1.alloc (.cells (prow h (.slice ao bs.length cap)) 32) := ⟨_, rfl⟩
    have l2 : Below u1.heap.size u1 u2 := by rw [hu2]; exact (Below.refl _ _).alloc (Nat.le_refl _) _
    have KP2 : PBlk u2 w.heap.size h (.slice ao bs.length cap) := HK0.out.on l2
    have KM2 : PBlk u2 u1.heap.size h (.slice ao bs.length cap) := by rw [hu2]; exact PBlk.new _ _ _
    have s2 : Hid (u1.heap.size < u2.heap.size) := by show _ < _; rw [hu2]; simp
    have HL2 : Hid (Below w.heap.size w u2) := HL1.out.trans (l2.mono HL1.out.size)
    have HT2 : Hid (Tab u2) := HT1.out.on l2
    have HS2 : Hid (Sl B u2 (.slice ao bs.length cap) bs) := HS1.out.on (l2.mono (Nat.le_trans hB HL1.out.size))
    rw [← hu2]
    clear hu2 l2 HK0 HL1 HT1 HS1
    have l3 : Below u2.heap.size u2 (u2.alloc (.cells #[] 5)) := (Below.refl _ _).alloc (Nat.le_refl _) _
    have HO3 : Hid (Owns u2.heap.size (u2.alloc (.cells #[] 5)) (.slice (some ⟨u2.heap.size, 0, none⟩) 0 0) []) := owns_empty u2 (Nat.le_refl _)
    have HS3 : Hid (Sl B (u2.alloc (.cells #[] 5)) (.slice ao bs.length cap) bs) := HS2.out.on (l3.mono (Nat.le_trans hB HL2.out.size))
    have c11 : (u2.alloc (.cells #[] 5)).cell? ⟨w.heap.size, 11, none⟩ = some (.slice ao bs.length cap) := (KP2.alloc _).last
    have HKP : Hid (PBlk u2 w.heap.size h (.slice ao bs.length cap)) := KP2
    have HKM : Hid (PBlk u2 u1.heap.size h (.slice ao bs.length cap)) := KM2
    clear KP2 KM2
    go_upto_region 5 with (first | (at_builtin; refine app22 (.tmp 16) (.tmp 18) rfl rfl rfl rfl HO3.out HS3.out (by simp) (by have := HLEN.out; simp; omega) ?_; intro v3 w3 X3; obtain ⟨a3, n3, c3, rfl⟩ := X3.own.slice; have K3 : PBlk w3 u1.heap.size h (.slice ao bs.length cap) := X3.block HO3.out (HKM.out.alloc _) (by decide)) | (refine st25P (.tmp 20) (.tmp 19) rfl _ rfl _ _ _ rfl rfl h _ (by exact K3) ?_))
    have X : Ext u2.heap.size (u2.alloc (.cells #[] 5)) (.slice (some ⟨u2.heap.size, 0, none⟩) 0 0) w3 (.slice a3 n3 c3) bs := X3
    clear X3
    have lw : Below u2.heap.size (u2.alloc (.cells #[] 5)) w3 := X.below HO3.out (by simp)
    have l23 : Below u2.heap.size u2 w3 := l3.trans lw
    obtain ⟨u4, hu4⟩ : ∃ u, u = w3.setCell ⟨u1.heap.size, 11, none⟩ (.slice a3 n3 c3) := ⟨_, rfl⟩
    have KM : Hid (PBlk u4 u1.heap.size h (.slice a3 n3 c3)) := by
      show PBlk _ _ _ _
      rw [hu4]; exact K3.setLast _
    have KP : Hid (PBlk u4 w.heap.size h (.slice ao bs.length cap)) := by
      show PBlk _ _ _ _
      rw [hu4]; exact (HKP.out.on l23).setOther _ _ _ (by have := s1.out; omega)
    have l14 : Below u1.heap.size u2 u4 := by
      rw [hu4]; exact (l23.mono (Nat.le_of_lt s2.out)).setCell (Nat.le_refl _) _
    have HL4 : Hid (Below w.heap.size w u4) := HL2.out.trans (l14.mono (Nat.le_of_lt s1.out))
    have HT4 : Hid (Tab u4) := fun k hk => by
      rw [l14.cell (p := ⟨0, k, none⟩) (by have := s1.out; show 0 < u1.heap.size; omega)]; exact HT2.out k hk
    have HS4 : Hid (Sl B u4 (.slice ao bs.length cap) bs) := HS2.out.on (l14.mono (Nat.le_trans hB (Nat.le_of_lt s1.out)))
    have hO4 : Owns u2.heap.size u4 (.slice a3 n3 c3) bs := by
      rw [hu4]
      exact ownsRow_setCell_other X.own (fun e => by have h1 := (X.own.lt _ e).1; have h2 := s2.out; simp only at h1; omega) _
    have HM4 : Hid (Sl u4.heap.size u4 (.slice a3 n3 c3) bs) := Sl.own hO4 (by have := HLEN.out; omega) HS2.out.isB
    rw [← hu4]
    clear hu4 l14 hO4 l23 lw X K3 HKP HKM c11 HS3 HO3 l3 HS2 HT2 HL2 s1 s2
    go_wp2_with (refine ld27 (.tmp 5) rfl _ rfl rfl h _ (by exact KM.out) ?_)
    go_fit (answer_any u4.heap.size mac h _ bs u4 HT4.out (Nat.le_refl _) HM4.out h0.out m0)
    rintro e w5 ⟨v5, rfl, hb5, hO5⟩
    have HS5a : Hid (Sl w5.heap.size w5 v5 (anL mac h bs)) := Sl.own hO5 (by have := anL_len mac h bs; omega) (anL_isB _ _ _)
    have KP5 : Hid (PBlk w5 w.heap.size h (.slice ao bs.length cap)) := KP.out.on hb5
    have KM5 : Hid (PBlk w5 u1.heap.size h (.slice a3 n3 c3)) := KM.out.on hb5
    have HL5 : Hid (Below w.heap.size w w5) := HL4.out.trans (hb5.mono HL4.out.size)
    have HT5 : Hid (Tab w5) := HT4.out.on hb5
    have HS5 : Hid (Sl B w5 (.slice ao bs.length cap) bs) := HS4.out.on (hb5.mono (Nat.le_trans hB HL4.out.size))
    have HM5 : Hid (Sl w5.heap.size w5 (.slice a3 n3 c3) bs) := (HM4.out.on hb5).mono hb5.size
    clear hb5 hO5 KM KP HL4 HT4 HS4 HM4
    go_wp2_with (refine ld27 (.tmp 3) rfl _ rfl rfl h _ (by exact KP5.out) ?_)
    go_fit (ranswer_any B mac h _ bs w5 (Nat.le_trans hB HL5.out.size) HS5.out h0.out m0 m1)
    rintro e w6 ⟨v6, rfl, hb6, hO6⟩
    have hS6b : Sl w6.heap.size w6 v6 (anL mac h bs) := Sl.own hO6 (by have := anL_len mac h bs; omega) (anL_isB _ _ _)
    have HC1 : Hid (Calls Tryd.prog 8 #[v5, v6] w6 fun e w' => e = .returned (.bool true) ∧ Below w6.heap.size w6 w') := by
      have := same_any _ _ v5 v6 (anL mac h bs) (anL mac h bs) w6 (HS5a.out.on hb6) hS6b hb6.size (Nat.le_refl _)
      rwa [show (anL mac h bs == anL mac h bs) = true by simp] at this
    have HL6 : Hid (Below w.heap.size w w6) := HL5.out.trans (hb6.mono HL5.out.size)
    have KP6 : Hid (PBlk w6 w.heap.size h (.slice ao bs.length cap)) := KP5.out.on hb6
    have KM6 : Hid (PBlk w6 u1.heap.size h (.slice a3 n3 c3)) := KM5.out.on hb6
    have HT6 : Hid (Tab w6) := HT5.out.on hb6
    have HS6 : Hid (Sl B w6 (.slice ao bs.length cap) bs) := HS5.out.on (hb6.mono (Nat.le_trans hB HL5.out.size))
    have HM6 : Hid (Sl w6.heap.size w6 (.slice a3 n3 c3) bs) := (HM5.out.on hb6).mono hb6.size
    obtain ⟨E, hE⟩ : ∃ E, E = anE mac h bs := ⟨_, rfl⟩
    rw [← hE]
    clear hE hb6 hO6 hS6b HS5a HL5 KP5 KM5 HT5 HS5 HM5
    go_wp2_with fail
    go_fit HC1.out
    rintro e w7 ⟨rfl, hb7⟩
    have k1 := (KP6.out.on hb7).last
    have k2 := (KM6.out.on hb7).last
    have HL7 : Hid (Below w.heap.size w w7) := HL6.out.trans (hb7.mono HL6.out.size)
    have HT7 : Hid (Tab w7) := HT6.out.on hb7
    have HC2 : Hid (Calls Tryd.prog 8 #[.slice a3 n3 c3, .slice ao bs.length cap] w7 fun e w' => e = .returned (.bool true) ∧ Below w7.heap.size w7 w') := by
      have := same_any _ _ _ _ bs bs w7 (HM6.out.on hb7) (HS6.out.on (hb7.mono (Nat.le_trans hB HL6.out.size))) hb7.size (Nat.le_trans hB HL7.out.size)
      rwa [show (bs == bs) = true by simp] at this
    clear hb7 HC1 HL6 KP6 KM6 HT6 HS6 HM6
    go_wp2_with fail
    go_fit HC2.out
    rintro e w8 ⟨rfl, hb8⟩
    have HL8 : Hid (Below w.heap.size w w8) := HL7.out.trans (hb8.mono HL7.out.size)
    have HT8 : Hid (Tab w8) := HT7.out.on hb8
    clear hb8 HC2 HL7 HT7 k1 k2
    go_wp2_with (go_at_call 11; refine (wakes_any w8 HT8.out).mono ?_; rintro e w9 ⟨rfl, hb9⟩)
    go_ret
    exact ⟨rfl, HL8.out.trans (hb9.mono HL8.out.size)⟩
end Go.Proofs.YtioohgcaakcgaaaDoor
