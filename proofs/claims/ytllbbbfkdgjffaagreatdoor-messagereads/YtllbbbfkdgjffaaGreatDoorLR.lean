/-
  Plain facts: a message with a list of more than 8192 members, or a rule with more copies and actions, has more than 8192 bytes. No program is spoken of.
-/
/-
  Plain facts: what the document's right looks at beside only; what its Check answers. No program is spoken of.
-/
/-
  Proved here: the laws' looks whether two lists are the same (ports, Copies) say true of two readings of one list. No condition.
-/
/-
  Proved here: the laws' looks whether two rules, two lists of held rules, two messages are the same say true of two readings of one. No condition.
-/
import Derived.Test.YtllbbbfkdgjffaaGreatDoorW2
import Derived.Test.YtllbbbfkdgjffaaGreatDoorDW
import Derived.Test.YtllbbbfkdgjffaaGreatDoorBL
import Derived.Test.YtllbbbfkdgjffaaGreatDoorR4
namespace Go.Proofs.YtllbbbfkdgjffaaGreatDoor

theorem encRl_ge (r : Rl) : cpn r.cp r.cp.length ≤ (encRl r).length := by
  have h2 := encCps_len r.cp
  simp only [encRl, encCs, List.length_append, dg_len, h2, cpn, List.take_length]
  omega
theorem cpn_nil {r : Rl} (h : r.cp.length = 0) : cpn r.cp r.cp.length = 0 := by
  have : r.cp = [] := List.eq_nil_of_length_eq_zero h
  rw [this]; rfl
theorem flat_ge {α : Type} {enc : α → List Int} : ∀ l : List α, (∀ x ∈ l, 1 ≤ (enc x).length) → l.length ≤ (l.flatMap enc).length
  | [], _ => by simp
  | a :: l, h => by
    have h1 := h a (by simp)
    have h2 := flat_ge l fun x hx => h x (by simp [hx])
    rw [List.flatMap_cons, List.length_append, List.length_cons]
    omega
theorem flat_mem {α : Type} {enc : α → List Int} : ∀ (l : List α) (x : α), x ∈ l → (enc x).length ≤ (l.flatMap enc).length
  | [], _, h => by simp at h
  | a :: l, x, h => by
    rw [List.flatMap_cons, List.length_append]
    rcases List.mem_cons.1 h with rfl | h
    · omega
    · have := flat_mem (enc := enc) l x h
      omega
/-- The look of Check at lists. -/
def big (m : Ms) : Prop := 8192 < m.ps.length ∨ 8192 < m.ed.length ∨ 8192 < m.fr.length ∨ 8192 < m.hs.length ∨ 8192 < cpn m.r.cp m.r.cp.length ∨ ∃ h ∈ m.hs, 8192 < cpn h.r.cp h.r.cp.length
theorem big_long (m : Ms) (hr : blank (rest m) = true) (hb : big m) : 8192 < (encMs m).length := by
  rw [← onlyB_eq] at hr
  have hlen : (encMs m).length = 8 + (body m).length := by simp only [encMs, List.length_append, dg_len]; omega
  rw [hlen]
  have hhs : m.hs.length ≤ (m.hs.flatMap encHd).length := flat_ge m.hs fun x _ => by simp only [encHd, List.length_append, dg_len]; omega
  have hhm : ∀ h ∈ m.hs, cpn h.r.cp h.r.cp.length ≤ (m.hs.flatMap encHd).length := fun h hm => by
    have h1 := flat_mem (enc := encHd) m.hs h hm
    have h2 := encRl_ge h.r
    simp only [encHd, List.length_append, dg_len] at h1
    omega
  have hrl := encRl_ge m.r
  have hnil : m.ty ≠ 5 → cpn m.r.cp m.r.cp.length = 0 := fun h5 => by
    simp only [onlyB, Bool.and_eq_true, Bool.or_eq_true, decide_eq_true_eq] at hr
    rcases hr.2.2.2.2.2.2.2.2.2 with h | h
    · exact absurd h h5
    · simp only [blRl, Bool.and_eq_true, decide_eq_true_eq] at h
      exact cpn_nil h.2.2.1
  have hmem : m.hs.length = 0 → ∀ h, h ∈ m.hs → False := fun h0 h hm => by
    rw [List.eq_nil_of_length_eq_zero h0] at hm; simp at hm
  unfold onlyB at hr
  unfold body pts
  by_cases h4 : m.ty = 4
  · have e := brM.eq_1 m
    rw [if_pos h4] at e
    rw [e] at hr
    simp only [Bool.and_eq_true, decide_eq_true_eq] at hr
    obtain ⟨-, -, -, -, -, q1, q2, q3, q4, -⟩ := hr
    simp only [zMs, List.length_nil] at q1 q2 q3 q4
    rw [if_pos h4]
    have hn := hnil (by omega)
    have h0 := hmem (by omega)
    simp only [List.flatMap_cons, List.flatMap_nil, encF, encSh, flat2, List.length_append, List.length_nil, dg_len]
    rcases hb with h | h | h | h | h | ⟨h, hm, -⟩
    · omega
    · omega
    · omega
    · omega
    · omega
    · exact absurd hm (h0 h)
  by_cases h5 : m.ty = 5
  · have e := brM.eq_1 m
    rw [if_neg h4, if_pos h5] at e
    rw [e] at hr
    simp only [Bool.and_eq_true, decide_eq_true_eq] at hr
    obtain ⟨-, -, -, -, -, q1, q2, q3, q4, -⟩ := hr
    simp only [zMs, List.length_nil] at q1 q2 q3 q4
    rw [if_neg h4, if_pos h5]
    have h0 := hmem (by omega)
    simp only [List.flatMap_cons, List.flatMap_nil, encF, List.length_append, List.length_nil, dg_len]
    rcases hb with h | h | h | h | h | ⟨h, hm, -⟩
    · omega
    · omega
    · omega
    · omega
    · omega
    · exact absurd hm (h0 h)
  by_cases h6 : m.ty = 6 ∨ m.ty = 7
  · have e := brM.eq_1 m
    rw [if_neg h4, if_neg h5, if_pos h6] at e
    rw [e] at hr
    simp only [Bool.and_eq_true, decide_eq_true_eq] at hr
    obtain ⟨-, -, -, -, -, q1, q2, q3, q4, -⟩ := hr
    simp only [zMs, List.length_nil] at q1 q2 q3 q4
    rw [if_neg h4, if_neg h5, if_pos h6]
    have hn := hnil (by omega)
    have h0 := hmem (by omega)
    simp only [List.flatMap_cons, List.flatMap_nil, encF, List.length_append, List.length_nil, dg_len]
    rcases hb with h | h | h | h | h | ⟨h, hm, -⟩
    · omega
    · omega
    · omega
    · omega
    · omega
    · exact absurd hm (h0 h)
  by_cases h11 : m.ty = 11
  · have e := brM.eq_1 m
    rw [if_neg h4, if_neg h5, if_neg h6, if_pos h11] at e
    rw [e] at hr
    simp only [Bool.and_eq_true, decide_eq_true_eq] at hr
    obtain ⟨-, -, -, -, -, q1, q2, q3, q4, -⟩ := hr
    simp only [zMs, List.length_nil] at q1 q2 q3 q4
    rw [if_neg h4, if_neg h5, if_neg h6, if_pos h11]
    have hn := hnil (by omega)
    simp only [List.flatMap_cons, List.flatMap_nil, encF, encHs, List.length_append, List.length_nil, dg_len]
    rcases hb with h | h | h | h | h | ⟨h, hm, h7⟩
    · omega
    · omega
    · omega
    · omega
    · omega
    · have := hhm h hm; omega
  by_cases h12 : m.ty = 12
  · have e := brM.eq_1 m
    rw [if_neg h4, if_neg h5, if_neg h6, if_neg h11, if_pos h12] at e
    rw [e] at hr
    simp only [Bool.and_eq_true, decide_eq_true_eq] at hr
    obtain ⟨-, -, -, -, -, q1, q2, q3, q4, -⟩ := hr
    simp only [zMs, List.length_nil] at q1 q2 q3 q4
    rw [if_neg h4, if_neg h5, if_neg h6, if_neg h11, if_pos h12]
    have hn := hnil (by omega)
    have h0 := hmem (by omega)
    simp only [List.flatMap_cons, List.flatMap_nil, encF, List.length_append, List.length_nil, dg_len]
    rcases hb with h | h | h | h | h | ⟨h, hm, -⟩
    · omega
    · omega
    · omega
    · omega
    · omega
    · exact absurd hm (h0 h)
  by_cases h13 : m.ty = 13
  · have e := brM.eq_1 m
    rw [if_neg h4, if_neg h5, if_neg h6, if_neg h11, if_neg h12, if_pos h13] at e
    rw [e] at hr
    simp only [Bool.and_eq_true, decide_eq_true_eq] at hr
    obtain ⟨-, -, -, -, -, q1, q2, q3, q4, -⟩ := hr
    simp only [zMs, List.length_nil] at q1 q2 q3 q4
    rw [if_neg h4, if_neg h5, if_neg h6, if_neg h11, if_neg h12, if_pos h13]
    have hn := hnil (by omega)
    have h0 := hmem (by omega)
    simp only [List.flatMap_cons, List.flatMap_nil, encF, List.length_append, List.length_nil, dg_len]
    rcases hb with h | h | h | h | h | ⟨h, hm, -⟩
    · omega
    · omega
    · omega
    · omega
    · omega
    · exact absurd hm (h0 h)
  have e := brM.eq_1 m
  rw [if_neg h4, if_neg h5, if_neg h6, if_neg h11, if_neg h12, if_neg h13] at e
  rw [e] at hr
  simp only [Bool.and_eq_true, decide_eq_true_eq] at hr
  obtain ⟨-, -, -, -, -, q1, q2, q3, q4, -⟩ := hr
  simp only [zMs, List.length_nil] at q1 q2 q3 q4
  have hn := hnil h5
  have h0 := hmem (by omega)
  rcases hb with h | h | h | h | h | ⟨h, hm, -⟩
  · omega
  · omega
  · omega
  · omega
  · omega
  · exact absurd hm (h0 h)
end Go.Proofs.YtllbbbfkdgjffaaGreatDoor
namespace Go.Proofs.YtllbbbfkdgjffaaGreatDoor

def rightB (m : Ms) : Bool := if m.ty = 5 then okDo m.dw && okRl m.r else if m.ty = 11 then m.hs.all okHd && okMo m.po else true
theorem pts_ok (m : Ms) : (pts m.ty).all (okF m) = rightB m := by
  unfold rightB pts
  by_cases h4 : m.ty = 4
  · rw [if_pos h4, if_neg (by omega), if_neg (by omega)]; rfl
  by_cases h5 : m.ty = 5
  · rw [if_neg h4, if_pos h5, if_pos h5]; simp [okF]
  by_cases h6 : m.ty = 6 ∨ m.ty = 7
  · rw [if_neg h4, if_neg h5, if_pos h6, if_neg h5, if_neg (by omega)]; rfl
  by_cases h11 : m.ty = 11
  · rw [if_neg h4, if_neg h5, if_neg h6, if_pos h11, if_neg h5, if_pos h11]; simp [okF, Bool.and_comm]
  rw [if_neg h4, if_neg h5, if_neg h6, if_neg h11, if_neg h5, if_neg h11]
  by_cases h12 : m.ty = 12
  · rw [if_pos h12]; rfl
  by_cases h13 : m.ty = 13
  · rw [if_neg h12, if_pos h13]; rfl
  rw [if_neg h12, if_neg h13]; rfl
/-- RIGHT. -/
theorem okMs_right (m : Ms) : okMs m = (isTy m.ty && (onlyB m && rightB m)) := by
  unfold okMs
  rw [onlyB_eq, pts_ok]
theorem enE_big {m : Ms} (h : okMs m = true) (hb : big m) : enE m = 3 := by
  have hr : blank (rest m) = true := by
    unfold okMs at h
    simp only [Bool.and_eq_true] at h
    exact h.2.1
  have := big_long m hr hb
  unfold enE
  rw [if_pos h, if_neg (by omega)]
theorem enE_len {m : Ms} (h : okMs m = true) : enE m = if 8192 < (encMs m).length then 3 else 0 := by
  unfold enE
  rw [if_pos h]
  by_cases hl : (encMs m).length ≤ 8192
  · rw [if_pos hl, if_neg (by omega)]
  · rw [if_neg hl, if_pos (by omega)]
end Go.Proofs.YtllbbbfkdgjffaaGreatDoor
namespace Go.Proofs.YtllbbbfkdgjffaaGreatDoor
open Go.RowKit

theorem still_trans {w a b : World} (h : Only (fun _ => False) w a) (k : Only (fun _ => False) a b) : Only (fun _ => False) w b := h.trans k
theorem Lst.cell {α : Type} {T : Nat → Prop} {k : Nat} {R : World → (Nat → Option Value) → α → Prop} {w : World} {ao : Option Addr} {n cap : Nat} {l : List α} (h : Lst T k R w (.slice ao n cap) l) (j : Nat) (hj : j < l.length) : ∃ b o, ao = some ⟨b, o, none⟩ ∧ T b ∧ R w (fun i => w.cell? ⟨b, o + j * k + i, none⟩) l[j] := by
  obtain ⟨ao', cap', he, -, -, -, h5⟩ := h
  obtain ⟨b, o, hT, rfl, hc⟩ := h5 (fun e => by rw [e] at hj; simp at hj)
  simp only [Value.slice.injEq] at he
  obtain ⟨rfl, -, -⟩ := he
  exact ⟨b, o, rfl, hT, hc j hj⟩
set_option maxHeartbeats 800000 in
set_option maxRecDepth 100000 in
theorem lports_same {T T' : Nat → Prop} {w : World} {v v' : Value} {l : List Int} (h : Shs T w v l) (h' : Shs T' w v' l) :
    Calls Tryz.prog 27 #[v, v'] w fun e w' => e = .returned (.bool true) ∧ Only (fun _ => False) w w' := by
  obtain ⟨ao, cap, rfl, hcap⟩ := h.form
  obtain ⟨ao', cap', rfl, hcap'⟩ := h'.form
  have hlen := h.len
  have H := hid h
  have H' := hid h'
  clear h h'
  go_enter Tryz.func27, Tryz.ntmps27
  go_wp2
  go_loopw [13] (fun i wr => ∃ j : Nat, j ≤ l.length ∧ i = .int .i64 j ∧ Only (fun _ => False) w wr) (fun i _ => l.length - (intOf i).toNat)
  case atStart => exact ⟨0, by omega, rfl, Only.refl _ _⟩
  case round =>
    obtain ⟨j, hj, rfl, ho⟩ := hrel
    by_cases hlt : j < l.length
    · obtain ⟨b, o, rfl, -, f0, -⟩ := H.out.cell j hlt
      obtain ⟨b', o', rfl, -, f0', -⟩ := H'.out.cell j hlt
      simp only [Nat.add_zero, Nat.mul_one] at f0 f0'
      rw [← cell_same (ho.block b (by simp))] at f0
      rw [← cell_same (ho.block b' (by simp))] at f0'
      generalize l[j] = x at f0 f0'
      have HO := hid ho
      clear ho
      go_wp2
      go_region
      go_wp2
      go_roundw
      case rel => exact ⟨j + 1, by omega, by go_num, HO.out.drew⟩
      case measure => simp [intOf]; omega
    · obtain rfl : j = l.length := by omega
      have HO := hid ho
      clear ho
      go_wp2
      go_ret
      exact ⟨rfl, HO.out⟩
set_option maxHeartbeats 1600000 in
set_option maxRecDepth 100000 in
theorem lcopies_same {T T' : Nat → Prop} {w : World} {v v' : Value} {l : List (List Ac)} (h : Cps T w v l) (h' : Cps T' w v' l) :
    Calls Tryz.prog 43 #[v, v'] w fun e w' => e = .returned (.bool true) ∧ Only (fun _ => False) w w' := by
  obtain ⟨ao, cap, rfl, hcap⟩ := h.form
  obtain ⟨ao', cap', rfl, hcap'⟩ := h'.form
  have hlen := h.len
  have H := hid h
  have H' := hid h'
  clear h h'
  go_enter Tryz.func43, Tryz.ntmps43
  go_wp2
  go_loopw [14] (fun i wr => ∃ j : Nat, j ≤ l.length ∧ i = .int .i64 j ∧ Only (fun _ => False) w wr) (fun i _ => l.length - (intOf i).toNat)
  case atStart => exact ⟨0, by omega, rfl, Only.refl _ _⟩
  case round =>
    obtain ⟨j, hj, rfl, ho⟩ := hrel
    obtain ⟨y, rfl⟩ : ∃ y, y = wr := ⟨_, rfl⟩
    by_cases hlt : j < l.length
    · obtain ⟨b, o, rfl, -, u, f0, hu⟩ := H.out.cell j hlt
      obtain ⟨b', o', rfl, -, u', f0', hu'⟩ := H'.out.cell j hlt
      simp only [Nat.add_zero, Nat.mul_one] at f0 f0'
      rw [← cell_same (ho.block b (by simp))] at f0
      rw [← cell_same (ho.block b' (by simp))] at f0'
      have HO := hid ho
      generalize l[j] = x at hu hu'
      obtain ⟨a1, c1, rfl, hc1⟩ := hu.form
      obtain ⟨a2, c2, rfl, hc2⟩ := hu'.form
      have hxl := hu.len
      have HU := hid hu
      have HU' := hid hu'
      have HF := hid f0
      have HF' := hid f0'
      clear hu hu' ho
      go_wp2
      go_region
      go_wp2
      go_loopw [33] (fun i w2 => ∃ k : Nat, k ≤ x.length ∧ i = .int .i64 k ∧ Only (fun _ => False) y w2) (fun i _ => x.length - (intOf i).toNat)
      case atStart => exact ⟨0, by omega, rfl, (Only.refl _ _).drew⟩
      case round =>
        obtain ⟨k, hk, rfl, ho⟩ := hrel
        by_cases hkt : k < x.length
        · obtain ⟨p, q, rfl, -, g0, g1, g2, hfit⟩ := HU.out.cell k hkt
          obtain ⟨p', q', rfl, -, g0', g1', g2', -⟩ := HU'.out.cell k hkt
          have hoo := HO.out.trans ho
          have k0 : wr.cell? ⟨p, q + k * 3, none⟩ = _ := (cell_same (hoo.block p (by simp))).trans g0
          have k1 : wr.cell? ⟨p, q + k * 3 + 1, none⟩ = _ := (cell_same (hoo.block p (by simp))).trans g1
          have k2 : wr.cell? ⟨p, q + k * 3 + 2, none⟩ = _ := (cell_same (hoo.block p (by simp))).trans g2
          have k0' : wr.cell? ⟨p', q' + k * 3, none⟩ = _ := (cell_same (hoo.block p' (by simp))).trans g0'
          have k1' : wr.cell? ⟨p', q' + k * 3 + 1, none⟩ = _ := (cell_same (hoo.block p' (by simp))).trans g1'
          have k2' : wr.cell? ⟨p', q' + k * 3 + 2, none⟩ = _ := (cell_same (hoo.block p' (by simp))).trans g2'
          rw [← cell_same (ho.block b (by simp))] at f0
          rw [← cell_same (ho.block b' (by simp))] at f0'
          have HO2 := hid ho
          clear ho hoo g0 g1 g2 g0' g1' g2' HF HF'
          generalize x[k] = z at k0 k1 k2 k0' k1' k2' hfit
          go_wp2
          go_region
          go_wp2
          go_roundw
          case rel => exact ⟨k + 1, by omega, by go_num, HO2.out.drew⟩
          case measure => simp [intOf]; omega
        · obtain rfl : k = x.length := by omega
          have HO2 := hid (HO.out.trans ho)
          clear ho
          go_wp2
          go_roundw
          case rel => exact ⟨j + 1, by omega, by go_num, HO2.out⟩
          case measure => simp [intOf]; omega
    · obtain rfl : j = l.length := by omega
      have HO := hid ho
      clear ho
      go_wp2
      go_ret
      exact ⟨rfl, HO.out⟩
end Go.Proofs.YtllbbbfkdgjffaaGreatDoor
namespace Go.Proofs.YtllbbbfkdgjffaaGreatDoor
open Go.RowKit

set_option maxHeartbeats 1600000 in
set_option maxRecDepth 100000 in
theorem lrule_same {T T' : Nat → Prop} {w : World} {u u' : Value} (r : Rl) (h : Cps T w u r.cp) (h' : Cps T' w u' r.cp) :
    Calls Tryz.prog 26 #[.agg (rlc r u), .agg (rlc r u')] w fun e w' => e = .returned (.bool true) ∧ Below w.heap.size w w' := by
  obtain ⟨W, HW, hb, hz, h0, h1⟩ := two_new w (.cells (rlc r u) 31) (.cells (rlc r u') 31)
  obtain ⟨ao, cap, rfl, -⟩ := h.form
  obtain ⟨ao', cap', rfl, -⟩ := h'.form
  obtain ⟨q0, q1, q2, Q3⟩ := rl_cells h0
  obtain ⟨p0, p1, p2, P3⟩ := rl_cells h1
  have HB := hid hb
  have HC := hid (lcopies_same (Cps.carry (T' := T) (fun b hb' hT => ⟨hT, hb.block b hb'⟩) h) (Cps.carry (T' := T') (fun b hb' hT => ⟨hT, hb.block b hb'⟩) h'))
  clear hb h0 h1 h h'
  go_enter Tryz.func26, Tryz.ntmps26
  go_upto_region 1 with fail
  rw [show (w.alloc (.cells (rlc r (.slice ao r.cp.length cap)) 31)).alloc (.cells (rlc r (.slice ao' r.cp.length cap')) 31) = W from HW.out.symm]
  go_wp2_with (first
    | (refine ldMid 28 (.tmp 11) rfl rfl _ 1 rfl (row 22 r.mt) _ Tryz.underlying28 rfl (sizeMt r.mt) Q3.out ?_)
    | (refine ldMid 28 (.tmp 13) rfl rfl _ 1 rfl (row 22 r.mt) _ Tryz.underlying28 rfl (sizeMt r.mt) P3.out ?_)
    | (refine eql26 (.tmp 12) (.tmp 14) rfl r.mt r.mt rfl rfl rfl ?_; rw [eqM_refl])
    | (go_at_call 43; refine (HC.out).mono ?_; rintro e w1 ⟨rfl, ho⟩; have HO := hid ho; clear ho))
  go_ret
  exact ⟨rfl, HB.out.trans (HO.out.below fun k hk => hk.elim)⟩
end Go.Proofs.YtllbbbfkdgjffaaGreatDoor
