/-
  Proved here: wakes of the statements says true. Condition: the widths' table holds its numbers.
-/
import Derived.Test.YtimenbkfkdpdcaaDoorTB
namespace Go.Proofs.YtimenbkfkdpdcaaDoor
open Go.RowKit

def m1 : Nat → Int := upd (upd zf 1 1) 12 281474976710655
def w1h : Nat → Int := upd zf 1 1
def w2h : Nat → Int := upd zf 1 2
theorem rc1 : (Value.agg #[.int .i64 5, .int .u64 0, .int .u64 1, .int .u64 0, .int .u64 0, .int .u64 0, .int .u64 0, .int .u64 0, .int .u64 0, .int .u64 0, .int .u64 0, .int .u64 0, .int .u64 0, .int .u64 281474976710655, .int .u64 0, .int .u64 0, .int .u64 0, .int .u64 0, .int .u64 0, .int .u64 0, .int .u64 0, .int .u64 0, .int .u64 0, .slice none 0 0, .int .u64 0]) = .agg (rc 5 m1 nilS 0) := by kernel_rfl
theorem rc2 : (Value.agg #[.int .i64 4, .int .u64 0, .int .u64 0, .int .u64 0, .int .u64 0, .int .u64 0, .int .u64 0, .int .u64 0, .int .u64 0, .int .u64 0, .int .u64 0, .int .u64 0, .int .u64 0, .int .u64 0, .int .u64 0, .int .u64 0, .int .u64 0, .int .u64 0, .int .u64 0, .int .u64 0, .int .u64 0, .int .u64 0, .int .u64 0, .slice none 0 0, .int .u64 0]) = .agg (rc 4 zf nilS 0) := by kernel_rfl
theorem hv1 : (Value.agg #[.int .u64 0, .int .u64 1, .int .u64 0, .int .u64 0, .int .u64 0, .int .u64 0, .int .u64 0, .int .u64 0, .int .u64 0, .int .u64 0, .int .u64 0]) = hv w1h := by kernel_rfl
theorem hv2 : (Value.agg #[.int .u64 0, .int .u64 2, .int .u64 0, .int .u64 0, .int .u64 0, .int .u64 0, .int .u64 0, .int .u64 0, .int .u64 0, .int .u64 0, .int .u64 0]) = hv w2h := by kernel_rfl
theorem wf_of {f : Nat → Int} (h : ∀ k, 0 ≤ f k ∧ f k ≤ 18446744073709551615) : Wf f := fun k => WalkArith.wf_u64 (h k)
theorem upd_bd {f : Nat → Int} {j : Nat} {x : Int} (h : ∀ k, 0 ≤ f k ∧ f k ≤ 18446744073709551615) (hx : 0 ≤ x ∧ x ≤ 18446744073709551615) : ∀ k, 0 ≤ upd f j x k ∧ upd f j x k ≤ 18446744073709551615 := fun k => by
  by_cases e : k = j
  · subst e; rw [upd_same]; exact hx
  · rw [upd_other _ _ _ _ e]; exact h k
theorem zf_bd : ∀ k, 0 ≤ zf k ∧ zf k ≤ 18446744073709551615 := fun k => ⟨Int.le_refl _, by show (0 : Int) ≤ _; omega⟩
theorem wf_m1 : Wf m1 := wf_of (upd_bd (upd_bd zf_bd (by omega)) (by omega))
theorem wf_zf : Wf zf := wf_of zf_bd
theorem wf_1 : Wf w1h := wf_of (upd_bd zf_bd (by omega))
theorem wf_2 : Wf w2h := wf_of (upd_bd zf_bd (by omega))
theorem ok_m1 : mOk m1 = true := by decide +kernel
theorem ok_zf : mOk zf = true := by decide +kernel
theorem hit11 : hit m1 w1h = true := by decide +kernel
theorem hit12 : hit m1 w2h = false := by decide +kernel
theorem hit21 : hit zf w1h = true := by decide +kernel
theorem hit22 : hit zf w2h = true := by decide +kernel
def T2 : List Ru := [⟨1, 5, m1⟩, ⟨2, 4, zf⟩]
theorem nMask2 : nMask T2 = 2 := by decide +kernel
theorem best1 {f : Option En} (h : Best T2 w1h f) : f = some ⟨5, 1⟩ := by
  cases f with
  | none => have := h.1 rfl ⟨1, 5, m1⟩ (by simp [T2]); rw [hit11] at this; cases this
  | some e =>
    obtain ⟨⟨u, hu, he, -⟩, h2⟩ := h.2 e rfl
    have h3 := h2 ⟨1, 5, m1⟩ (by simp [T2]) hit11
    rcases h3 with h3 | h3
    · rw [← h3]
    · simp only [T2, List.mem_cons, List.not_mem_nil, or_false] at hu
      rcases hu with rfl | rfl
      · rw [he]
      · rw [he] at h3; cases h3
theorem best2 {f : Option En} (h : Best T2 w2h f) : f = some ⟨4, 2⟩ := by
  cases f with
  | none => have := h.1 rfl ⟨2, 4, zf⟩ (by simp [T2]); rw [hit22] at this; cases this
  | some e =>
    obtain ⟨⟨u, hu, he, hh⟩, h2⟩ := h.2 e rfl
    simp only [T2, List.mem_cons, List.not_mem_nil, or_false] at hu
    rcases hu with rfl | rfl
    · rw [hit12] at hh; cases hh
    · rw [he]
theorem Tab.only {S : Nat → Prop} {w w' : World} (h : Tab w) (hO : Only S w w') (h0 : ¬ S 0) : Tab w' := fun k hk => (cell_same (hO.block 0 h0)).trans (h k hk)
set_option maxHeartbeats 1600000 in
set_option maxRecDepth 100000 in
theorem wakes_any (w : World) (ht : Tab w) : Calls Tryd.prog 16 #[] w fun e w' => e = .returned (.bool true) ∧ Below w.heap.size w w' := by
  have hpos := ht.pos
  have HT := hid ht
  have HA1 : Hid (∀ w1 v, Below w.heap.size w w1 → Tbl (fun b => w.heap.size ≤ b) w1 v [] 0 → Calls Tryd.prog 8 #[v, .agg #[.int .i64 5, .int .u64 0, .int .u64 1, .int .u64 0, .int .u64 0, .int .u64 0, .int .u64 0, .int .u64 0, .int .u64 0, .int .u64 0, .int .u64 0, .int .u64 0, .int .u64 0, .int .u64 281474976710655, .int .u64 0, .int .u64 0, .int .u64 0, .int .u64 0, .int .u64 0, .int .u64 0, .int .u64 0, .int .u64 0, .int .u64 0, .slice none 0 0, .int .u64 0]] w1 fun e w' => e = .returned (.tuple #[.int .i64 1, .int .i64 0]) ∧ Below w.heap.size w w' ∧ Tbl (fun b => w.heap.size ≤ b) w' v [⟨1, 5, m1⟩] 1) := fun w1 v hb h => by
    rw [rc1]
    refine (tAdd_any w1 v [] 0 5 m1 nilS 0 h (fun b hb' => Nat.le_trans hb.size hb') (HT.out.on hb) wf_m1 (by omega)).mono ?_
    have e0 : adE [] m1 = 0 := by simp [adE, ok_m1]
    unfold adN adT adA
    rw [e0]
    rintro e w' ⟨rfl, hO, hT⟩
    exact ⟨rfl, hb.trans (hO.below fun k hk => hk), hT⟩
  have HA2 : Hid (∀ w1 v, Below w.heap.size w w1 → Tbl (fun b => w.heap.size ≤ b) w1 v [⟨1, 5, m1⟩] 1 → Calls Tryd.prog 8 #[v, .agg #[.int .i64 4, .int .u64 0, .int .u64 0, .int .u64 0, .int .u64 0, .int .u64 0, .int .u64 0, .int .u64 0, .int .u64 0, .int .u64 0, .int .u64 0, .int .u64 0, .int .u64 0, .int .u64 0, .int .u64 0, .int .u64 0, .int .u64 0, .int .u64 0, .int .u64 0, .int .u64 0, .int .u64 0, .int .u64 0, .int .u64 0, .slice none 0 0, .int .u64 0]] w1 fun e w' => e = .returned (.tuple #[.int .i64 2, .int .i64 0]) ∧ Below w.heap.size w w' ∧ Tbl (fun b => w.heap.size ≤ b) w' v T2 2) := fun w1 v hb h => by
    rw [rc2]
    refine (tAdd_any w1 v [⟨1, 5, m1⟩] 1 4 zf nilS 0 h (fun b hb' => Nat.le_trans hb.size hb') (HT.out.on hb) wf_zf (by omega)).mono ?_
    have e0 : adE [⟨1, 5, m1⟩] zf = 0 := by simp [adE, ok_zf]
    unfold adN adT adA
    rw [e0]
    rintro e w' ⟨rfl, hO, hT⟩
    exact ⟨rfl, hb.trans (hO.below fun k hk => hk), hT⟩
  have HF1 : Hid (∀ w1 v, Below w.heap.size w w1 → Tbl (fun b => w.heap.size ≤ b) w1 v T2 2 → Calls Tryd.prog 12 #[v, .agg #[.int .u64 0, .int .u64 1, .int .u64 0, .int .u64 0, .int .u64 0, .int .u64 0, .int .u64 0, .int .u64 0, .int .u64 0, .int .u64 0, .int .u64 0]] w1 fun e w' => e = .returned (.tuple #[.int .i64 1, .bool true]) ∧ Below w.heap.size w w' ∧ Tbl (fun b => w.heap.size ≤ b) w' v T2 2) := fun w1 v hb h => by
    rw [hv1]
    refine (tFind_any w1 v T2 2 w1h h wf_1 (by omega)).mono ?_
    rintro e w' ⟨f, hf, rfl, hb'⟩
    rw [best1 hf]
    exact ⟨rfl, hb.trans (hb'.mono hb.size), h.carry fun b hb1 hS => ⟨hS, hb'.block b hb1⟩⟩
  have HF2 : Hid (∀ w1 v, Below w.heap.size w w1 → Tbl (fun b => w.heap.size ≤ b) w1 v T2 2 → Calls Tryd.prog 12 #[v, .agg #[.int .u64 0, .int .u64 2, .int .u64 0, .int .u64 0, .int .u64 0, .int .u64 0, .int .u64 0, .int .u64 0, .int .u64 0, .int .u64 0, .int .u64 0]] w1 fun e w' => e = .returned (.tuple #[.int .i64 2, .bool true]) ∧ Below w.heap.size w w' ∧ Tbl (fun b => w.heap.size ≤ b) w' v T2 2) := fun w1 v hb h => by
    rw [hv2]
    refine (tFind_any w1 v T2 2 w2h h wf_2 (by omega)).mono ?_
    rintro e w' ⟨f, hf, rfl, hb'⟩
    rw [best2 hf]
    exact ⟨rfl, hb.trans (hb'.mono hb.size), h.carry fun b hb1 hS => ⟨hS, hb'.block b hb1⟩⟩
  have HR : Hid (∀ w1 v, Tbl (fun b => w.heap.size ≤ b) w1 v T2 2 → Calls Tryd.prog 14 #[v] w1 fun e w' => e = .returned (.int .i64 2) ∧ w' = w1) := fun w1 v h => by
    have := tRows_any w1 v T2 2 h
    rw [nMask2] at this
    exact this
  clear ht
  go_enter Tryd.func16, Tryd.ntmps16
  go_wp2_with (first
    | (go_at_call 7; refine (tnew_any w).mono ?_; rintro e x1 ⟨v, rfl, hb1, hT1⟩; have HC1 := hid (HA1.out x1 v hb1 hT1); clear hb1 hT1 HA1)
    | (go_at_call 8; refine (HC1.out).mono ?_; rintro e x2 ⟨rfl, hb2, hT2⟩; have HC2 := hid (HA2.out x2 v hb2 hT2); clear hb2 hT2 HA2 HC1)
    | (go_at_call 8; refine (HC2.out).mono ?_; rintro e x3 ⟨rfl, hb3, hT3⟩; have HC3 := hid (HF1.out x3 v hb3 hT3); clear hb3 hT3 HF1 HC2)
    | (go_at_call 12; refine (HC3.out).mono ?_; rintro e x4 ⟨rfl, hb4, hT4⟩; have HC4 := hid (HF2.out x4 v hb4 hT4); clear hb4 hT4 HF2 HC3)
    | (go_at_call 12; refine (HC4.out).mono ?_; rintro e x5 ⟨rfl, hb5, hT5⟩; have HC5 := hid (HR.out x5 v hT5); have HB5 := hid hb5; clear hb5 hT5 HR HC4)
    | (go_at_call 14; refine (HC5.out).mono ?_; rintro e x6 ⟨rfl, rfl⟩; clear HC5))
  go_ret
  exact ⟨rfl, HB5.out⟩
end Go.Proofs.YtimenbkfkdpdcaaDoor
