/-
  Proved here: portsSize, sizeAhead, isOperation and appendIP of package frame answer what 'psz', 'ahead', 'isOp' say, and append a head and ports. Conditions: the slice is nil or the call's own, of at most 2000 bytes; lengths below 65536.
-/
import Derived.Test.YtioohgcaakcgaaaDoorE1
namespace Go.Proofs.YtioohgcaakcgaaaDoor
open Go.RowKit

def psz (p : Int) : Int := if p = 6 then 20 else if p = 17 then 8 else 0
def ahead (h : Nat → Int) : Int := if h 2 = 2054 then 28 else if h 2 = 2048 then 20 + psz (h 6) else 0
def isOp (bs : List Int) : Bool := bs == [1] || bs == [2]
theorem psz_bd (p : Int) : 0 ≤ psz p ∧ psz p ≤ 20 := by unfold psz; split <;> (try split) <;> omega
theorem ahead_bd (h : Nat → Int) : 0 ≤ ahead h ∧ ahead h ≤ 40 := by
  have := psz_bd (h 6)
  unfold ahead; split <;> (try split) <;> omega

set_option maxHeartbeats 400000 in
theorem portsSize_any (p : Int) (w : World) : Calls Tryd.prog 43 #[.int .u64 p] w fun e w' => e = .returned (.int .i64 (psz p)) ∧ w' = w := by
  by_cases h6 : p = 6
  · have HT : Hid (psz p = 20) := by show psz p = 20; simp [psz, h6]
    have hd : (p == 6) = true := by simp [h6]
    clear h6
    go_enter Tryd.func43, Tryd.ntmps43
    go_wp2
    go_ret
    exact ⟨by rw [HT.out]; rfl, rfl⟩
  · have hd : (p == 6) = false := by simp [h6]
    by_cases h17 : p = 17
    · have HT : Hid (psz p = 8) := by show psz p = 8; simp [psz, h17]
      have hd' : (p == 17) = true := by simp [h17]
      clear h6 h17
      go_enter Tryd.func43, Tryd.ntmps43
      go_wp2
      go_ret
      exact ⟨by rw [HT.out]; rfl, rfl⟩
    · have HT : Hid (psz p = 0) := by show psz p = 0; simp [psz, h6, h17]
      have hd' : (p == 17) = false := by simp [h17]
      clear h6 h17
      go_enter Tryd.func43, Tryd.ntmps43
      go_wp2
      go_ret
      exact ⟨by rw [HT.out]; rfl, rfl⟩

set_option maxHeartbeats 400000 in
theorem sizeAhead_any (h : Nat → Int) (w : World) : Calls Tryd.prog 34 #[hv h] w fun e w' => e = .returned (.int .i64 (ahead h)) ∧ Below w.heap.size w w' := by
  have r2 := row_at 11 h 2 (by omega)
  have r6 := row_at 11 h 6 (by omega)
  have hl : Below w.heap.size w (w.alloc (.cells (row 11 h) 30)) := (Below.refl _ _).alloc (Nat.le_refl _) _
  have hp := psz_bd (h 6)
  by_cases h1 : h 2 = 2054
  · have HT : Hid (ahead h = 28) := by show ahead h = 28; simp [ahead, h1]
    have hd : (h 2 == 2054) = true := by simp [h1]
    clear h1
    go_enter Tryd.func34, Tryd.ntmps34
    go_wp2
    go_ret
    exact ⟨by rw [HT.out]; rfl, hl⟩
  · have hd : (h 2 == 2054) = false := by simp [h1]
    by_cases h2 : h 2 = 2048
    · have HT : Hid (ahead h = 20 + psz (h 6)) := by show ahead h = _; simp [ahead, h2]
      have hd' : (h 2 == 2048) = true := by simp [h2]
      clear h1 h2
      go_enter Tryd.func34, Tryd.ntmps34
      go_wp2_with (go_at_call 43; refine (portsSize_any _ _).mono ?_; rintro e w' ⟨rfl, rfl⟩)
      go_ret
      exact ⟨by rw [HT.out]; rfl, hl⟩
    · have HT : Hid (ahead h = 0) := by show ahead h = _; simp [ahead, h1, h2]
      have hd' : (h 2 == 2048) = false := by simp [h2]
      clear h1 h2
      go_enter Tryd.func34, Tryd.ntmps34
      go_wp2
      go_ret
      exact ⟨by rw [HT.out]; rfl, hl⟩

theorem isOp_long {bs : List Int} (h : bs.length ≠ 1) : isOp bs = false := by
  match bs, h with
  | [], _ => rfl
  | [_], h => simp at h
  | _ :: _ :: _, _ => simp [isOp]
set_option maxHeartbeats 400000 in
theorem isOperation_any (B : Nat) (v : Value) (bs : List Int) (w : World) (hs : Sl B w v bs) : Calls Tryd.prog 33 #[v] w fun e w' => e = .returned (.bool (isOp bs)) ∧ w' = w := by
  have hlen := hs.len
  obtain ⟨ao, cap, rfl, _, _, _, _, hcells⟩ := hs
  by_cases h1 : bs.length = 1
  · obtain ⟨x, rfl⟩ : ∃ x, bs = [x] := by
      match bs, h1 with
      | [x], _ => exact ⟨x, rfl⟩
    obtain ⟨b, o, _, rfl, hcl⟩ := hcells (by simp)
    have hc : w.cell? ⟨b, o, none⟩ = some (.int .u8 x) := by simpa using hcl 0 (by simp)
    clear hcl hcells h1
    have e0 : isOp [x] = (x == 1 || x == 2) := by simp [isOp]
    rw [e0]; clear e0
    cases hx : (x == 1)
    · go_enter Tryd.func33, Tryd.ntmps33
      go_wp2
      go_ret
      exact ⟨by simp, rfl⟩
    · go_enter Tryd.func33, Tryd.ntmps33
      go_wp2
      go_ret
      exact ⟨by simp, rfl⟩
  · rw [isOp_long h1]
    have hd : ((bs.length : Int) == 1) = false := by simpa using (by omega : ¬ ((bs.length : Int) = 1))
    have hd2 : (bs.length == 1) = false := by simpa using h1
    clear hcells h1
    go_enter Tryd.func33, Tryd.ntmps33
    go_wp2
    go_ret
    exact ⟨rfl, rfl⟩

section
variable {ops : Array Oper} {o : Oper} {a : Act} {S : World → Prop}
theorem y25 (x : Operand) (ho : o.op = .load 30 x) (g : Nat) (hx : a.eval x = .pointer (some ⟨g, 0, none⟩)) (hw : Region.wanted o (yielded ops a.tmps) = true) (m : Nat → Int) (hS : ∀ w, S w → Blk w g 11 30 m) : YieldsIf Tryd.prog ops S o (hv m) a :=
  .inl ⟨hw, fun w hw' => by
    unfold execOp
    simp only [ho, hx, Instr.loadAt, Instr.sureAddr, Sem.run_bind, Sem.run_pure, Result.andThen_ok, run_loadVar_row w g 30 30 (row 11 m) (0, 0) _ (hS w hw') Tryd.underlying30 rfl (size25 m)]⟩
theorem yPH (x : Operand) (ho : o.op = .load 30 x) (g : Nat) (hx : a.eval x = .pointer (some ⟨g, 0, none⟩)) (hw : Region.wanted o (yielded ops a.tmps) = true) (m : Nat → Int) (v : Value) (hS : ∀ w, S w → PBlk w g m v) : YieldsIf Tryd.prog ops S o (hv m) a :=
  .inl ⟨hw, fun w hw' => by
    have := run_loadVar_mid (P := Tryd.prog) w g 0 30 (row 11 m).toList _ (range_head (hS w hw')) Tryd.underlying30 rfl (by rw [size25 m]; simp)
    unfold execOp
    simp only [ho, hx, Instr.loadAt, Instr.sureAddr, Sem.run_bind, Sem.run_pure, Result.andThen_ok, this]⟩
end
theorem Ext.drew {base : Nat} {w w1 : World} {v v1 : Value} {xs : List Int} (h : Ext base w v w1 v1 xs) : Ext base w v w1.drew v1 xs := ⟨h.own, ⟨h.grown.os, h.grown.tape, h.grown.output, h.grown.size, h.grown.block⟩, h.same⟩
theorem Owns.on {base : Nat} {w w' : World} {v : Value} {xs : List Int} (h : Owns base w v xs) (hb : Below w.heap.size w w') : Owns base w' v xs := ((Ext.refl h).on hb).own

/-- What appendIP appends. -/
def ipL (h : Nat → Int) (len : Int) : List Int := headL h len (hsum h len) ++ portsL h (len - 20)
set_option maxHeartbeats 1600000 in
/-- appendIP. -/
theorem apIP (base : Nat) (h : Nat → Int) (n : Int) (v : Value) (xs : List Int) (w : World) (n0 : 0 ≤ n) (n1 : n < 2000) (h20 : 20 ≤ ahead h) (hown : Owns base w v xs) (hlen : xs.length ≤ 2000) (hbase : base ≤ w.heap.size) :
    Calls Tryd.prog 46 #[v, hv h, .int .i64 n] w fun e w' => ∃ v', e = .returned v' ∧ Ext base w v w' v' (xs ++ ipL h (ahead h + n)) := by
  have K0 := Blk.new w 11 30 h
  have E0 : Hid (Ext base w v (w.alloc (.cells (row 11 h) 30)) v xs) := ext_box _ hown
  have ha := (ahead_bd h).2
  clear hown
  go_enter Tryd.func46, Tryd.ntmps46
  go_wp2_with (refine ld25 (.tmp 4) rfl _ rfl rfl h K0 ?_)
  refine (sizeAhead_any h _).mono ?_
  rintro e w1 ⟨rfl, hb⟩
  have K1 : Blk w1 w.heap.size 11 30 h := K0.on hb
  have E1 : Hid (Ext base w v w1 v xs) := E0.out.on hb
  clear K0 E0 hb
  obtain ⟨len, hl⟩ : ∃ len, len = ahead h + n := ⟨_, rfl⟩
  have l0 : 20 ≤ len := by omega
  have l1 : len < 65536 := by omega
  have HL : Hid (ahead h + n = len) := hl.symm
  have hsum0 : ahead h + n = len := hl.symm
  clear hl
  go_wp2_with fail
  clear hsum0
  refine wp_region_noPanic ?_
  refine wp_region_held_drew (S := (fun w' => Blk w' w.heap.size 11 30 h)) (by kernel_rfl) (K1.drew) (fun hHeld => ?_)
  have hE2 : Hid (Ext base w v w1.drew v xs) := E1.out.drew
  clear E1 K1
  refine wpAnyH_take (i := 0) (v := ?_) rfl (by kernel_rfl) (by kernel_rfl) (by kernel_rfl) (fun _ _ _ h => h) (Or.inl ⟨by rfl, ?_⟩) hHeld ?_
  rotate_left
  · intro w hSw
    go_simp
    first | done | with_reducible rfl
  simp only [Act.put, List.getElem_toArray, List.getElem_cons_zero, List.setIfInBounds_toArray, List.set_cons_zero, List.set_cons_succ]
  refine wpAnyH_take (i := 1) rfl (by kernel_rfl) (by kernel_rfl) (by kernel_rfl) (fun _ _ _ h => h) (y25 (.tmp 4) rfl _ rfl rfl h (fun _ hh => hh)) hHeld ?_
  simp only [Act.put, List.getElem_toArray, List.getElem_cons_succ, List.getElem_cons_zero, List.setIfInBounds_toArray, List.set_cons_zero, List.set_cons_succ]
  refine wpAnyH_take (i := 2) (v := ?_) rfl (by kernel_rfl) (by kernel_rfl) (by kernel_rfl) (fun _ _ _ h => h) (Or.inl ⟨by rfl, ?_⟩) hHeld ?_
  rotate_left
  · intro w hSw
    go_simp
    first | done | with_reducible rfl
  simp only [Act.put, List.getElem_toArray, List.getElem_cons_succ, List.getElem_cons_zero, List.setIfInBounds_toArray, List.set_cons_zero, List.set_cons_succ]
  refine wpAnyH_take (i := 3) rfl (by kernel_rfl) (by kernel_rfl) (by kernel_rfl) (fun _ _ _ h => h) (y25 (.tmp 4) rfl _ rfl rfl h (fun _ hh => hh)) hHeld ?_
  simp only [Act.put, List.getElem_toArray, List.getElem_cons_succ, List.getElem_cons_zero, List.setIfInBounds_toArray, List.set_cons_zero, List.set_cons_succ]
  refine wpAnyH_take (i := 4) (v := ?_) rfl (by kernel_rfl) (by kernel_rfl) (by kernel_rfl) (fun _ _ _ h => h) (Or.inl ⟨by rfl, ?_⟩) hHeld ?_
  rotate_left
  · intro w hSw
    go_simp
    first | done | with_reducible rfl
  simp only [Act.put, List.getElem_toArray, List.getElem_cons_succ, List.getElem_cons_zero, List.setIfInBounds_toArray, List.set_cons_zero, List.set_cons_succ]
  refine wpAnyH_ready (rs := [5]) (by kernel_rfl) (by simp) ?_
  refine AllReadyH.cons rfl (fun K hK => ?_) AllReadyH.nil
  go_simp
  refine (headSum_any h len _ (by omega) l1).mono ?_
  rintro e w2 ⟨rfl, hb2⟩
  go_simp
  refine hK.out _ _ (hHeld.on hb2) (fun hHeld => ?_)
  clear hK K
  have hE3 : Hid (Ext base w v w2 v xs) := hE2.out.on hb2
  clear hE2 hb2
  refine wpAnyH_ready (rs := [6]) (by kernel_rfl) (by simp) ?_
  refine AllReadyH.cons rfl (fun K hK => ?_) AllReadyH.nil
  go_simp
  refine (apHead base h len (hsum h len) v xs w2 (by omega) l1 hE3.out.own (by omega) (Nat.le_trans hbase hE3.out.grown.size)).mono ?_
  rintro e w3 ⟨v3, rfl, X3⟩
  go_simp
  refine hK.out _ _ (X3.block hE3.out.own hHeld (by decide)) (fun hHeld => ?_)
  clear hK K
  have hE4 : Hid (Ext base w v w3 v3 (xs ++ headL h len (hsum h len))) := hE3.out.trans X3
  clear hE3 X3
  refine wpAnyH_take (i := 7) (v := ?_) rfl (by kernel_rfl) (by kernel_rfl) (by kernel_rfl) (fun _ _ _ h => h) (Or.inl ⟨by rfl, ?_⟩) hHeld ?_
  rotate_left
  · intro w hSw
    go_simp
    first | done | with_reducible rfl
  simp only [Act.put, List.getElem_toArray, List.getElem_cons_succ, List.getElem_cons_zero, List.setIfInBounds_toArray, List.set_cons_zero]
  refine wpAnyH_done (by kernel_rfl) ?_ _
  refine NoPanic.normal ?_
  have K3 : Blk w3 w.heap.size 11 30 h := hHeld
  clear hHeld
  go_wp2_with (refine ld25 (.tmp 4) rfl _ rfl rfl h K3 ?_)
  refine (apPorts base h (len - 20) v3 _ w3 (by omega) (by omega) hE4.out.own (by simp only [List.length_append, headL_len]; omega) (Nat.le_trans hbase hE4.out.grown.size)).mono ?_
  rintro e w4 ⟨v4, rfl, X4⟩
  have hE5 : Hid (Ext base w v w4 v4 (xs ++ headL h len (hsum h len) ++ portsL h (len - 20))) := hE4.out.trans X4
  clear X4 hE4 K3
  go_wp2
  go_ret
  exact ⟨v4, rfl, by rw [HL.out]; simpa only [ipL, List.append_assoc] using hE5.out⟩
end Go.Proofs.YtioohgcaakcgaaaDoor
