/-
  Proved here: slices.CompareFunc at bySetting, and byRow of package nodes: the order of two rows; nothing but draws and new blocks turns. Condition: the rows lie where they are said to.
-/
import Derived.Test.YtggbokghhohofaaDoorB2
namespace Go.Proofs.YtggbokghhohofaaDoor
open Go.RowKit
set_option maxRecDepth 100000

abbrev zac : Array Value := #[.int .i8 0, .int .i8 0, .int .u64 0]
theorem cmpR_step {l m : List Ac} {j : Nat} (h1 : j < l.length) (h2 : j < m.length) : cmpR (l.drop j) (m.drop j) = if cmpS l[j] m[j] = 0 then cmpR (l.drop (j + 1)) (m.drop (j + 1)) else cmpS l[j] m[j] := by
  rw [List.drop_eq_getElem_cons h1, List.drop_eq_getElem_cons h2]; rfl
theorem Acs.same {T : Nat → Prop} {w w' : World} {v : Value} {l : List Ac} (h : Acs T w v l) (hb : Gro w w') : Acs T w' v l := h.on hb.below
theorem Acs.rng {T : Nat → Prop} {w w' : World} {ao : Option Addr} {n cap : Nat} {r : List Ac} (h : Acs T w (.slice ao n cap) r) (hb : Gro w w') (j : Nat) (hj : j < r.length) : ∃ b o, ao = some ⟨b, o, none⟩ ∧ w'.rangeAt b (o + j * 3) (acl r[j]).toList := by
  obtain ⟨b, o, e, _, hbl, hra, _⟩ := h.at j hj
  exact ⟨b, o, e, fun k u hk => (cell_same (hb.below.block _ hbl)).trans (hra k u hk)⟩
set_option maxHeartbeats 3200000 in
theorem cmpF_any {T : Nat → Prop} (w : World) (v v' : Value) (r r' : List Ac) (h : Acs T w v r) (h' : Acs T w v' r') : Calls Tryd.prog 54 #[v, v', .func (.func 55) #[] #[]] w fun e w' => e = .returned (.int .i64 (cmpR r r')) ∧ Gro w w' := by
  obtain ⟨ao, cap, rfl, hcap⟩ := h.form
  obtain ⟨ao', cap', rfl, hcap'⟩ := h'.form
  have hlen := h.len
  have hlen' := h'.len
  have HA := hid h
  have HA' := hid h'
  clear h h'
  go_enter Tryd.func54, Tryd.ntmps54
  go_upto_region 2 with fail
  go_loopw [13] (fun i wr => ∃ j : Nat, i = .int .i64 ((j : Nat) : Int) ∧ j ≤ r.length ∧ j ≤ r'.length ∧ Hid (cmpR r r' = cmpR (r.drop j) (r'.drop j)) ∧ Hid (Gro w wr)) (fun i _ => r.length - (intOf i).toNat)
  case atStart => exact ⟨0, rfl, Nat.zero_le _, Nat.zero_le _, rfl, Gro.refl _⟩
  case round =>
    obtain ⟨j, rfl, hj1, hj2, HO, HL⟩ := hrel
    by_cases hj : j < r.length
    · obtain ⟨b, o, rfl, hra⟩ := HA.out.rng HL.out j hj
      have HR := hid hra
      have hd : decide ((j : Int) < (r.length : Int)) = true := by simp; omega
      have hjc : j < cap := by omega
      have hw3 : IntKind.i64.wrap ((j : Int) + 1) = (j : Int) + 1 := by rw [IntKind.wrap_i64]; omega
      have HG3 : Hid (Gro wr (wr.alloc (.cells (acl r[j]) 54))) := (Gro.refl _).alloc _
      have HN3 : Hid ((wr.alloc (.cells (acl r[j]) 54)).heap[wr.heap.size]? = some (.cells (acl r[j]) 54 (0, 0))) := heap_alloc_new _ _
      have HZ3 : Hid ((wr.alloc (.cells (acl r[j]) 54)).heap.size = wr.heap.size + 1) := by show _ = _; simp
      clear hra
      go_upto_region 4 with (first
        | (refine ldMid 54 (.tmp 16) rfl rfl b (o + j * 3) rfl (acl r[j]) _ Tryd.underlying54 rfl infoACT HR.out ?_)
        | (refine stNew 54 (.tmp 8) (.tmp 17) rfl rfl wr 54 zac (acl r[j]) rfl rfl rfl infoACT rfl (acl_one _) ?_))
      generalize wr.alloc (.cells (acl r[j]) 54) = w3 at HG3 HN3 HZ3 ⊢
      have HL3 := hid (HL.out.trans HG3.out)
      by_cases hj' : j < r'.length
      · obtain ⟨b', o', rfl, hra⟩ := HA'.out.rng HL3.out j hj'
        have HR' := hid hra
        have hd' : decide ((r'.length : Int) ≤ (j : Int)) = false := by simp; omega
        have hjc' : j < cap' := by omega
        have HG4 : Hid (Gro w3 (w3.alloc (.cells (acl r'[j]) 54))) := (Gro.refl _).alloc _
        have HN4 : Hid ((w3.alloc (.cells (acl r'[j]) 54)).heap[w3.heap.size]? = some (.cells (acl r'[j]) 54 (0, 0))) := heap_alloc_new _ _
        have HN3' : Hid ((w3.alloc (.cells (acl r'[j]) 54)).heap[wr.heap.size]? = some (.cells (acl r[j]) 54 (0, 0))) := (heap_alloc_old _ _ (by have := HZ3.out; omega)).trans HN3.out
        clear hra
        go_upto_region 7 with (first
          | (refine ldMid 54 (.tmp 24) rfl rfl b' (o' + j * 3) rfl (acl r'[j]) _ Tryd.underlying54 rfl infoACT HR'.out ?_)
          | (refine stNew 54 (.tmp 9) (.tmp 25) rfl rfl w3 54 zac (acl r'[j]) rfl rfl rfl infoACT rfl (acl_one _) ?_))
        generalize w3.alloc (.cells (acl r'[j]) 54) = w4 at HG4 HN4 HN3' ⊢
        have HS := hid (bySetting_any r[j] r'[j] w4)
        have HL4 := hid (HL3.out.trans HG4.out)
        have HC := hid (cmpR_step hj hj')
        generalize r[j] = x at HS HC HN3' ⊢
        generalize r'[j] = y at HS HC HN4 ⊢
        by_cases hc : cmpS x y = 0
        · have HO2 : Hid (cmpR r r' = cmpR (r.drop (j + 1)) (r'.drop (j + 1))) := by show _ = _; rw [HO.out, HC.out, if_pos hc]
          rw [hc] at HS
          go_wp2_with (first
            | (refine ldRow 54 (.tmp 8) rfl rfl wr.heap.size rfl 54 (acl x) _ Tryd.underlying54 rfl infoACT HN3'.out ?_)
            | (refine ldRow 54 (.tmp 9) rfl rfl w3.heap.size rfl 54 (acl y) _ Tryd.underlying54 rfl infoACT HN4.out ?_)
            | (go_at_call 55; refine (HS.out).mono ?_; rintro e w5 ⟨rfl, h5⟩; have H5 := hid (HL4.out.trans h5); clear h5))
          go_roundw
          case rel => exact ⟨j + 1, by rw [show (((j + 1 : Nat) : Nat) : Int) = (j : Int) + 1 by omega], hj, hj', HO2, H5⟩
          case measure => simp [intOf]; omega
        · have HF : Hid (cmpR r r' = cmpS x y) := by show _ = _; rw [HO.out, HC.out, if_neg hc]
          have hc1 : (cmpS x y != 0) = true := bne_iff_ne.2 hc
          clear hc
          go_wp2_with (first
            | (refine ldRow 54 (.tmp 8) rfl rfl wr.heap.size rfl 54 (acl x) _ Tryd.underlying54 rfl infoACT HN3'.out ?_)
            | (refine ldRow 54 (.tmp 9) rfl rfl w3.heap.size rfl 54 (acl y) _ Tryd.underlying54 rfl infoACT HN4.out ?_)
            | (go_at_call 55; refine (HS.out).mono ?_; rintro e w5 ⟨rfl, h5⟩; have H5 := hid (HL4.out.trans h5); clear h5))
          go_ret
          exact ⟨by rw [HF.out]; rfl, H5.out⟩
      · have hd' : decide ((r'.length : Int) ≤ (j : Int)) = true := by simp; omega
        have HF : Hid (cmpR r r' = 1) := by
          show _ = _
          obtain rfl : j = r'.length := by omega
          rw [HO.out, List.drop_eq_getElem_cons hj, List.drop_length]; rfl
        go_wp2
        go_ret
        exact ⟨by rw [HF.out]; rfl, HL3.out⟩
    · have hd : decide ((j : Int) < (r.length : Int)) = false := by simp; omega
      obtain rfl : j = r.length := by omega
      by_cases hl : r.length < r'.length
      · have hl1 : decide ((r.length : Int) < (r'.length : Int)) = true := by simp; omega
        have HF : Hid (cmpR r r' = -1) := by show _ = _; rw [HO.out, List.drop_eq_getElem_cons hl, List.drop_length]; rfl
        go_wp2
        go_ret
        exact ⟨by rw [HF.out]; rfl, HL.out⟩
      · have hl1 : decide ((r.length : Int) < (r'.length : Int)) = false := by simp; omega
        have HF : Hid (cmpR r r' = 0) := by show _ = _; rw [HO.out, List.drop_length, List.drop_eq_nil_of_le (by omega)]; rfl
        go_wp2
        go_ret
        exact ⟨by rw [HF.out]; rfl, HL.out⟩
theorem byRow_any {T : Nat → Prop} (w : World) (v v' : Value) (r r' : List Ac) (h : Acs T w v r) (h' : Acs T w v' r') : Calls Tryd.prog 37 #[v, v'] w fun e w' => e = .returned (.int .i64 (cmpR r r')) ∧ Gro w w' := by
  have HC := hid (cmpF_any w v v' r r' h h')
  clear h h'
  go_enter Tryd.func37, Tryd.ntmps37
  go_wp2_with (go_at_call 54; refine (HC.out).mono ?_; rintro e w' ⟨rfl, hb⟩; have HB := hid hb; clear hb)
  go_ret
  exact ⟨rfl, HB.out⟩
end Go.Proofs.YtggbokghhohofaaDoor
