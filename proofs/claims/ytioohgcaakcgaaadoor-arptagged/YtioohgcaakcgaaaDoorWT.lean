/-
  Proved here: ArpTagged's body returns true for every packet, tag, port and switch; no old memory turns. Conditions: the widths' table holds its eleven numbers; no number of the header is negative; the three numbers are unsigned, of 16 bits.
-/
import Derived.Test.YtioohgcaakcgaaaDoorJ7
import Derived.Deep.DeepCutAuto
namespace Go.Proofs.YtioohgcaakcgaaaDoor
open Go.RowKit

def tagH (h : Nat → Int) (x y z : Int) : Nat → Int := upd (upd (upd h 3 x) 9 y) 10 z
theorem tagH_nn {h : Nat → Int} {x y z : Int} (h0 : ∀ k, 0 ≤ h k) (hx : 0 ≤ x) (hy : 0 ≤ y) (hz : 0 ≤ z) : ∀ k, 0 ≤ tagH h x y z k := by
  intro k
  unfold tagH
  by_cases e1 : k = 10
  · subst e1; rw [upd_same]; exact hz
  · rw [upd_other _ _ _ _ e1]
    by_cases e2 : k = 9
    · subst e2; rw [upd_same]; exact hy
    · rw [upd_other _ _ _ _ e2]
      by_cases e3 : k = 3
      · subst e3; rw [upd_same]; exact hx
      · rw [upd_other _ _ _ _ e3]; exact h0 k
theorem tagH_ok {h : Nat → Int} {x y z : Int} (h0 : ∀ k, 0 ≤ h k) (hx : 0 ≤ x ∧ x < 4096) (hy : 0 ≤ y ∧ y < 65536) (hz : 0 ≤ z ∧ z < 65536) : hOk (tagH h x y z) = hOk (tagH h 0 0 0) := by
  rw [Bool.eq_iff_iff, hOk_iff (tagH_nn h0 hx.1 hy.1 hz.1), hOk_iff (tagH_nn h0 (Int.le_refl _) (Int.le_refl _) (Int.le_refl _))]
  unfold Vd
  have e : ∀ x y z k, k ≠ 3 → k ≠ 9 → k ≠ 10 → tagH h x y z k = h k := fun x y z k e3 e9 e10 => by
    unfold tagH; rw [upd_other _ _ _ _ e10, upd_other _ _ _ _ e9, upd_other _ _ _ _ e3]
  have a3 : ∀ x y z, tagH h x y z 3 = x := fun _ _ _ => rfl
  have a9 : ∀ x y z, tagH h x y z 9 = y := fun _ _ _ => rfl
  have a10 : ∀ x y z, tagH h x y z 10 = z := fun _ _ _ => rfl
  simp only [a3, a9, a10, e _ _ _ 0 (by omega) (by omega) (by omega), e _ _ _ 1 (by omega) (by omega) (by omega), e _ _ _ 2 (by omega) (by omega) (by omega), e _ _ _ 4 (by omega) (by omega) (by omega), e _ _ _ 5 (by omega) (by omega) (by omega), e _ _ _ 6 (by omega) (by omega) (by omega), e _ _ _ 7 (by omega) (by omega) (by omega), e _ _ _ 8 (by omega) (by omega) (by omega)]
  constructor
  · rintro ⟨b0, b1, b2, b2', b2'', _, b4, b5, b6, b7, b8, _, _, r⟩
    exact ⟨b0, b1, b2, b2', b2'', by omega, b4, b5, b6, b7, b8, by omega, by omega, r⟩
  · rintro ⟨b0, b1, b2, b2', b2'', _, b4, b5, b6, b7, b8, _, _, r⟩
    exact ⟨b0, b1, b2, b2', b2'', hx.2, b4, b5, b6, b7, b8, hy.2, hz.2, r⟩
theorem tagH_rd {h : Nat → Int} {bs : List Int} {x y z : Int} (h0 : ∀ k, 0 ≤ h k) (hx : 0 ≤ x ∧ x < 4096) (hy : 0 ≤ y ∧ y < 65536) (hz : 0 ≤ z ∧ z < 65536) : rdV (tagH h x y z) bs = rdV (tagH h 0 0 0) bs := by
  have hs : some4 (tagH h x y z) bs = some4 (tagH h 0 0 0) bs := by
    unfold some4
    rw [tagH_ok h0 hx hy hz]
    rfl
  unfold rdV rdA rdN
  rw [hs]
  rfl
/-- A number of the packet in the block that was made last is stored. -/
theorem st22g {ops : Array Oper} {rest : List Oper} {o : Oper} {a : Act} {w : World} {Q : Exit → Act → World → Prop} (x y : Operand) (ho : o.op = .store 22 x y) (w0 : World) (z : Nat → Int) (u : Value) (hW : w = w0.alloc (.cells (prow z u) 32)) (g j : Nat) (hx : a.eval x = .pointer (some ⟨g, j, none⟩)) (hg : g = w0.heap.size) (n : Int) (hy : a.eval y = .int .u64 n) (hw : Region.wanted o (yielded ops a.tmps) = true) (hj : j < 11)
    (h : wpList Tryd.prog ops Q rest (a.put o.dst undef) (w0.alloc (.cells (prow (upd z j n) u) 32))) : wpList Tryd.prog ops Q (o :: rest) a w := by
  subst hW
  subst hg
  refine st23P x y ho _ _ hx n hy hw z u (PBlk.new w0 z u) hj ?_
  rw [World.setCell_alloc_new, prow_set z u j hj n]
  exact h
/-- A packet into the block that was made last. -/
theorem st27g {ops : Array Oper} {rest : List Oper} {o : Oper} {a : Act} {w : World} {Q : Exit → Act → World → Prop} (x y : Operand) (ho : o.op = .store 32 x y) (w0 : World) (z : Nat → Int) (u : Value) (hW : w = w0.alloc (.cells (prow z u) 32)) (g : Nat) (hx : a.eval x = .pointer (some ⟨g, 0, none⟩)) (hg : g = w0.heap.size) (m : Nat → Int) (v : Value) (hy : a.eval y = pv m v) (hv1 : v.oneCell' = true) (hw : Region.wanted o (yielded ops a.tmps) = true)
    (h : wpList Tryd.prog ops Q rest (a.put o.dst undef) (w0.alloc (.cells (prow m v) 32))) : wpList Tryd.prog ops Q (o :: rest) a w := by
  subst hg
  exact st27n x y ho w0 z u hW hx m v hy hv1 hw h

set_option maxHeartbeats 1600000 in
/-- ArpTagged. -/
theorem tagged_any (B : Nat) (h : Nat → Int) (vb : Value) (bs : List Int) (x y z : Int) (w : World) (hs : Sl B w vb bs) (hB : B ≤ w.heap.size) (hw : Tab w) (h0 : ∀ k, 0 ≤ h k) (x0 : 0 ≤ x) (x1 : x < 65536) (y0 : 0 ≤ y) (y1 : y < 65536) (z0 : 0 ≤ z) (z1 : z < 65536) :
    Calls Tryd.prog 7 #[pv h vb, .int .u16 x, .int .u16 y, .int .u16 z] w fun e w' => e = .returned (.bool true) ∧ Below w.heap.size w w' := by
  have K0 : Hid (PBlk (w.alloc (.cells (prow h vb) 32)) w.heap.size h vb) := PBlk.new w h vb
  have l1 : Below w.heap.size w (w.alloc (.cells (prow h vb) 32)) := (Below.refl _ _).alloc (Nat.le_refl _) _
  have HL1 : Hid (Below w.heap.size w (w.alloc (.cells (prow h vb) 32))) := l1
  have HT1 : Hid (Tab (w.alloc (.cells (prow h vb) 32))) := hw.on l1
  by_cases hx : 4095 < x
  · clear hs hw l1 K0
    go_enter Tryd.func7, Tryd.ntmps7
    go_wp2_with (go_at_call 11; refine (wakes_any _ HT1.out).mono ?_; rintro e w4 ⟨rfl, hb4⟩)
    go_ret
    exact ⟨rfl, HL1.out.trans (hb4.mono HL1.out.size)⟩
  · have HN : Hid (∀ k, 0 ≤ tagH h x y z k) := tagH_nn h0 x0 y0 z0
    have HN0 : Hid (∀ k, 0 ≤ tagH h 0 0 0 k) := tagH_nn h0 (by omega) (by omega) (by omega)
    have HR : Hid (rdV (tagH h x y z) bs = rdV (tagH h 0 0 0) bs) := tagH_rd h0 ⟨x0, by omega⟩ ⟨y0, y1⟩ ⟨z0, z1⟩
    have HS1 : Hid (Sl B (w.alloc (.cells (prow h vb) 32)) vb bs) := hs.on (l1.mono hB)
    obtain ⟨ao9, n9, c9, rfl⟩ : ∃ ao n c, vb = .slice ao n c := by obtain ⟨ao, c, rfl, _⟩ := hs; exact ⟨_, _, _, rfl⟩
    clear hs hw h0 l1
    go_enter Tryd.func7, Tryd.ntmps7
    go_upto_region 3 with fail
    obtain ⟨u1, hu1⟩ : ∃ u, u = (w.alloc (.cells (prow h (.slice ao9 n9 c9)) 32)) := ⟨_, rfl⟩
    have s1 : Hid (u1.heap.size = w.heap.size + 1) := by show _ = _; rw [hu1]; simp
    rw [← hu1] at K0 HL1 HT1 HS1 ⊢
    clear hu1
    go_upto_region 4 with (first | (refine alc27 rfl rfl ?_) | (refine ld27 (.tmp 4) rfl _ rfl rfl h _ (by exact K0.out) ?_) | (refine st27g (.tmp 9) (.tmp 24) rfl _ zf nilS rfl _ rfl (by simp) h _ rfl rfl rfl ?_))
    go_upto_region 7 with (first | (refine st22g (.tmp 28) (.tmp 26) rfl _ _ _ rfl _ 3 rfl (by simp) x rfl rfl (by omega) ?_) | (refine st22g (.tmp 32) (.tmp 30) rfl _ _ _ rfl _ 9 rfl (by simp) y rfl rfl (by omega) ?_) | (refine st22g (.tmp 36) (.tmp 34) rfl _ _ _ rfl _ 10 rfl (by simp) z rfl rfl (by omega) ?_))
    obtain ⟨u2, hu2⟩ : ∃ u, u = u1.alloc (.cells (prow (upd (upd (upd h 3 x) 9 y) 10 z) (.slice ao9 n9 c9)) 32) := ⟨_, rfl⟩
    have l2 : Below u1.heap.size u1 u2 := by rw [hu2]; exact (Below.refl _ _).alloc (Nat.le_refl _) _
    have KP : Hid (PBlk u2 w.heap.size h (.slice ao9 n9 c9)) := K0.out.on l2
    have KQ : Hid (PBlk u2 u1.heap.size (tagH h x y z) (.slice ao9 n9 c9)) := by
      show PBlk u2 u1.heap.size (tagH h x y z) (.slice ao9 n9 c9)
      rw [hu2]; exact PBlk.new _ _ _
    have HL2 : Hid (Below w.heap.size w u2) := HL1.out.trans (l2.mono HL1.out.size)
    have HT2 : Hid (Tab u2) := HT1.out.on l2
    have HS2 : Hid (Sl B u2 (.slice ao9 n9 c9) bs) := HS1.out.on (l2.mono (Nat.le_trans hB HL1.out.size))
    rw [← hu2]
    clear hu2 l2 K0 HL1 HT1 HS1
    go_upto_region 8 with (first | (refine alc27 rfl rfl ?_) | (refine ld27 (.tmp 4) rfl _ rfl rfl h _ (by exact KP.out) ?_) | (refine st27g (.tmp 10) (.tmp 37) rfl _ zf nilS rfl _ rfl (by simp) h _ rfl rfl rfl ?_))
    go_upto_region 11 with (first | (refine st22g (.tmp 39) (.const (.int .u64 0)) rfl _ _ _ rfl _ 3 rfl (by simp) 0 rfl rfl (by omega) ?_) | (refine st22g (.tmp 41) (.const (.int .u64 0)) rfl _ _ _ rfl _ 9 rfl (by simp) 0 rfl rfl (by omega) ?_) | (refine st22g (.tmp 43) (.const (.int .u64 0)) rfl _ _ _ rfl _ 10 rfl (by simp) 0 rfl rfl (by omega) ?_))
    obtain ⟨u3, hu3⟩ : ∃ u, u = u2.alloc (.cells (prow (upd (upd (upd h 3 0) 9 0) 10 0) (.slice ao9 n9 c9)) 32) := ⟨_, rfl⟩
    have l3 : Below u2.heap.size u2 u3 := by rw [hu3]; exact (Below.refl _ _).alloc (Nat.le_refl _) _
    have KQ3 : Hid (PBlk u3 u1.heap.size (tagH h x y z) (.slice ao9 n9 c9)) := KQ.out.on l3
    have KR3 : Hid (PBlk u3 u2.heap.size (tagH h 0 0 0) (.slice ao9 n9 c9)) := by
      show PBlk u3 u2.heap.size (tagH h 0 0 0) (.slice ao9 n9 c9)
      rw [hu3]; exact PBlk.new _ _ _
    have HL3 : Hid (Below w.heap.size w u3) := HL2.out.trans (l3.mono HL2.out.size)
    have HT3 : Hid (Tab u3) := HT2.out.on l3
    have HS3 : Hid (Sl B u3 (.slice ao9 n9 c9) bs) := HS2.out.on (l3.mono (Nat.le_trans hB HL2.out.size))
    rw [← hu3]
    clear hu3 l3 KP KQ HL2 HT2 HS2 s1
    go_wp2_with (refine ld27 (.tmp 9) rfl _ rfl rfl (tagH h x y z) _ (by exact KQ3.out) ?_)
    go_fit (read_any B (tagH h x y z) _ bs u3 HT3.out (Nat.le_trans hB HL3.out.size) HS3.out HN.out)
    rintro e w4 ⟨rfl, hb4⟩
    rw [HR.out]
    have HV : Hid (∃ a m f t o, rdV (tagH h 0 0 0) bs = .tuple #[.bool a, .int .u64 m, .int .u32 f, .int .u32 t, .bool o]) := ⟨_, _, _, _, _, rfl⟩
    obtain ⟨a, m, f, t, o, hv⟩ := HV.out
    rw [hv]
    have HV' : Hid (rdV (tagH h 0 0 0) bs = .tuple #[.bool a, .int .u64 m, .int .u32 f, .int .u32 t, .bool o]) := hv
    have KR4 : Hid (PBlk w4 u2.heap.size (tagH h 0 0 0) (.slice ao9 n9 c9)) := KR3.out.on hb4
    have HL4 : Hid (Below w.heap.size w w4) := HL3.out.trans (hb4.mono HL3.out.size)
    have HT4 : Hid (Tab w4) := HT3.out.on hb4
    have HS4 : Hid (Sl B w4 (.slice ao9 n9 c9) bs) := HS3.out.on (hb4.mono (Nat.le_trans hB HL3.out.size))
    clear hb4 KQ3 KR3 HL3 HT3 HS3 HV hv HR HN
    go_wp2_with (refine ld27 (.tmp 10) rfl _ rfl rfl (tagH h 0 0 0) _ (by exact KR4.out) ?_)
    go_fit (read_any B (tagH h 0 0 0) _ bs w4 HT4.out (Nat.le_trans hB HL4.out.size) HS4.out HN0.out)
    rintro e w5 ⟨rfl, hb5⟩
    rw [HV'.out]
    have HL5 : Hid (Below w.heap.size w w5) := HL4.out.trans (hb5.mono HL4.out.size)
    have HT5 : Hid (Tab w5) := HT4.out.on hb5
    clear hb5 KR4 HL4 HT4 HS4 HN0 HV'
    have ea : (a == a) = true := by simp
    have eo : (o == o) = true := by simp
    go_wp2_with (go_at_call 11; refine (wakes_any w5 HT5.out).mono ?_; rintro e w6 ⟨rfl, hb6⟩)
    go_ret
    exact ⟨rfl, HL5.out.trans (hb6.mono HL5.out.size)⟩
end Go.Proofs.YtioohgcaakcgaaaDoor
