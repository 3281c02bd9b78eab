/-
  Proved here: appendPacket and Build of package frame make the bytes that 'pktL' says, or the error that 'bErr' says, for every packet; no old memory turns. Condition of Build: the widths' table holds its eleven numbers.
-/
import Derived.Test.YtioohgcaakcgaaaDoorE2
import Derived.Test.YtioohgcaakcgaaaDoorH1
namespace Go.Proofs.YtioohgcaakcgaaaDoor
open Go.RowKit

/-- A packet's bytes. -/
def pktL (h : Nat → Int) (bs : List Int) : List Int :=
  ethL h ++ (if h 2 = 2054 then arpL h (bs.getD 0 0) else if h 2 = 2048 then ipL h (ahead h + bs.length) ++ bs else bs)
theorem ethL_len (h : Nat → Int) : (ethL h).length ≤ 18 := by
  unfold ethL tagL
  split <;> simp [dg_len]
theorem ipL_len (h : Nat → Int) (n : Int) : (ipL h n).length ≤ 40 := by
  unfold ipL portsL
  simp only [List.length_append, headL_len]
  split <;> (try split) <;> simp [dg_len]

set_option maxHeartbeats 1600000 in
/-- appendPacket. -/
theorem apPkt (base B : Nat) (h : Nat → Int) (v vb : Value) (xs bs : List Int) (w : World) (hown : Owns base w v xs) (hlen : xs.length ≤ 100) (hbase : base ≤ w.heap.size) (hB : B ≤ base) (hs : Sl B w vb bs) (hbs : bs.length ≤ 1500) (hA : h 2 = 2054 → bs ≠ []) :
    Calls Tryd.prog 35 #[v, pv h vb] w fun e w' => ∃ v', e = .returned v' ∧ Ext base w v w' v' (xs ++ pktL h bs) := by
  have K0 := PBlk.new w h vb
  have E0 : Hid (Ext base w v (w.alloc (.cells (prow h vb) 32)) v xs) := ext_box _ hown
  have hl0 := ethL_len h
  go_enter Tryd.func35, Tryd.ntmps35
  go_wp2_with (refine ldPH (.tmp 6) rfl _ rfl rfl h vb K0 ?_)
  refine (apEth base h v xs _ E0.out.own (by omega) (Nat.le_trans hbase E0.out.grown.size)).mono ?_
  rintro e w1 ⟨v1, rfl, X1⟩
  have K1 : PBlk w1 w.heap.size h vb := X1.block E0.out.own K0 (by decide)
  have E1 : Hid (Ext base w v w1 v1 (xs ++ ethL h)) := E0.out.trans X1
  have hbel : Below base w w1 := E1.out.below hown hbase
  have S1 : Hid (Sl B w1 vb bs) := hs.on (hbel.mono hB)
  have hbase1 : base ≤ w1.heap.size := Nat.le_trans hbase hbel.size
  clear K0 E0 X1 hown hs hbel
  obtain ⟨ao, cap, rfl, q1, q2, q3, q4, q5⟩ := S1.out
  have HC : Hid (bs ≠ [] → ∃ b o, b < B ∧ ao = some ⟨b, o, none⟩ ∧ ∀ j, j < bs.length → w1.cell? ⟨b, o + j, none⟩ = some (.int .u8 (bs.getD j 0))) := q5
  clear q1 q2 q3 q4 q5
  have c2 := K1.cell 2 (by omega)
  have c11 := K1.last
  by_cases hk : h 2 = 2054
  · have HT : Hid (pktL h bs = ethL h ++ arpL h (bs.getD 0 0)) := by show pktL h bs = _; simp [pktL, hk]
    have hd : (h 2 == 2054) = true := by simp [hk]
    have hne := hA hk
    obtain ⟨b, o, _, rfl, hcl⟩ := HC.out hne
    obtain ⟨x, hx⟩ : ∃ x, x = bs.getD 0 0 := ⟨_, rfl⟩
    have hpos : 0 < bs.length := List.length_pos_iff.2 hne
    have hx0 := S1.out.isB.at 0
    have hc0 : w1.cell? ⟨b, o, none⟩ = some (.int .u8 x) := by rw [hx]; simpa using hcl 0 hpos
    rw [← hx] at HT hx0
    clear hk hcl HC hx hne hA
    go_wp2_with fail
    refine wp_region_noPanic ?_
    refine wp_region_held_drew (S := (fun w' => PBlk w' w.heap.size h (.slice (some ⟨b, o, none⟩) bs.length cap) ∧ w'.cell? ⟨b, o, none⟩ = some (.int .u8 x))) (by kernel_rfl) (⟨K1, hc0⟩) (fun hHeld => ?_)
    have E2 : Hid (Ext base w v w1.drew v1 (xs ++ ethL h)) := E1.out.drew
    clear E1 K1 c2 c11 hc0 S1
    refine wpAnyH_take (i := 0) (v := ?_) rfl (by kernel_rfl) (by kernel_rfl) (by kernel_rfl) (fun _ _ _ h => h) (Or.inl ⟨by rfl, ?_⟩) hHeld ?_
    rotate_left
    · intro w hSw
      go_simp
      first | done | with_reducible rfl
    simp only [Act.put, List.getElem_toArray, List.getElem_cons_zero, List.setIfInBounds_toArray, List.set_cons_zero, List.set_cons_succ]
    refine wpAnyH_take (i := 1) (v := ?_) rfl (by kernel_rfl) (by kernel_rfl) (by kernel_rfl) (fun _ _ _ h => h) (Or.inl ⟨by rfl, ?_⟩) hHeld ?_
    rotate_left
    · intro w hSw
      go_simp
      first | done | with_reducible rfl
    simp only [Act.put, List.getElem_toArray, List.getElem_cons_succ, List.getElem_cons_zero, List.setIfInBounds_toArray, List.set_cons_zero, List.set_cons_succ]
    refine wpAnyH_take (i := 2) rfl (by kernel_rfl) (by kernel_rfl) (by kernel_rfl) (fun _ _ _ h => h) (yPH (.tmp 15) rfl _ rfl rfl h _ (fun _ hh => hh.1)) hHeld ?_
    simp only [Act.put, List.getElem_toArray, List.getElem_cons_succ, List.getElem_cons_zero, List.setIfInBounds_toArray, List.set_cons_zero, List.set_cons_succ]
    refine wpAnyH_take (i := 3) (v := ?_) rfl (by kernel_rfl) (by kernel_rfl) (by kernel_rfl) (fun _ _ _ h => h) (Or.inl ⟨by rfl, ?_⟩) hHeld ?_
    rotate_left
    · intro w hSw
      go_simp
      first | done | with_reducible rfl
    simp only [Act.put, List.getElem_toArray, List.getElem_cons_succ, List.getElem_cons_zero, List.setIfInBounds_toArray, List.set_cons_zero, List.set_cons_succ]
    refine wpAnyH_take (i := 4) (v := ?_) rfl (by kernel_rfl) (by kernel_rfl) (by kernel_rfl) (fun _ _ _ h => h) (Or.inl ⟨by rfl, ?_⟩) hHeld ?_
    rotate_left
    · intro w hSw
      have hc := hSw.1.last
      go_simp
      first | done | with_reducible rfl
    simp only [Act.put, List.getElem_toArray, List.getElem_cons_succ, List.getElem_cons_zero, List.setIfInBounds_toArray, List.set_cons_zero, List.set_cons_succ]
    refine wpAnyH_take (i := 5) (v := ?_) rfl (by kernel_rfl) (by kernel_rfl) (by kernel_rfl) (fun _ _ _ h => h) (Or.inl ⟨by rfl, ?_⟩) hHeld ?_
    rotate_left
    · intro w hSw
      go_simp
      first | done | with_reducible rfl
    simp only [Act.put, List.getElem_toArray, List.getElem_cons_succ, List.getElem_cons_zero, List.setIfInBounds_toArray, List.set_cons_zero, List.set_cons_succ]
    refine wpAnyH_take (i := 6) (v := ?_) rfl (by kernel_rfl) (by kernel_rfl) (by kernel_rfl) (fun _ _ _ h => h) (Or.inl ⟨by rfl, ?_⟩) hHeld ?_
    rotate_left
    · intro w hSw
      have hc := hSw.2
      go_simp
      first | done | with_reducible rfl
    simp only [Act.put, List.getElem_toArray, List.getElem_cons_succ, List.getElem_cons_zero, List.setIfInBounds_toArray, List.set_cons_zero, List.set_cons_succ]
    refine wpAnyH_take (i := 7) (v := ?_) rfl (by kernel_rfl) (by kernel_rfl) (by kernel_rfl) (fun _ _ _ h => h) (Or.inl ⟨by rfl, ?_⟩) hHeld ?_
    rotate_left
    · intro w hSw
      go_simp
      first | done | with_reducible rfl
    simp only [Act.put, List.getElem_toArray, List.getElem_cons_succ, List.getElem_cons_zero, List.setIfInBounds_toArray, List.set_cons_zero, List.set_cons_succ]
    rw [wrap64 (a := x) hx0.1 (by omega)]
    refine wpAnyH_ready (rs := [8]) (by kernel_rfl) (by simp) ?_
    refine AllReadyH.cons rfl (fun K hK => ?_) AllReadyH.nil
    go_simp
    go_fit (apARP base h x v1 _ _ E2.out.own (by simp only [List.length_append]; omega) (Nat.le_trans hbase E2.out.grown.size))
    rintro e w3 ⟨v3, rfl, X3⟩
    go_simp
    have hS3 : Below base _ w3 := X3.below E2.out.own (Nat.le_trans hbase E2.out.grown.size)
    refine hK.out _ _ (⟨X3.block E2.out.own hHeld.1 (by decide), by rw [hS3.cell (p := ⟨b, o, none⟩) (by show b < base; omega)]; exact hHeld.2⟩) (fun hHeld => ?_)
    clear hK K
    have E3 : Hid (Ext base w v w3 v3 (xs ++ ethL h ++ arpL h x)) := E2.out.trans X3
    clear E2 X3 hS3
    refine wpAnyH_take (i := 9) (v := ?_) rfl (by kernel_rfl) (by kernel_rfl) (by kernel_rfl) (fun _ _ _ h => h) (Or.inl ⟨by rfl, ?_⟩) hHeld ?_
    rotate_left
    · intro w hSw
      go_simp
      first | done | with_reducible rfl
    simp only [Act.put, List.getElem_toArray, List.getElem_cons_succ, List.getElem_cons_zero, List.setIfInBounds_toArray, List.set_cons_zero, List.set_cons_succ]
    refine wpAnyH_done (by kernel_rfl) ?_ _
    refine NoPanic.normal ?_
    clear hHeld
    go_wp2
    go_ret
    exact ⟨v3, rfl, by rw [HT.out]; simpa only [List.append_assoc] using E3.out⟩
  · have hd : (h 2 == 2054) = false := by simp [hk]
    by_cases hk2 : h 2 = 2048
    · have HT : Hid (pktL h bs = ethL h ++ (ipL h (ahead h + bs.length) ++ bs)) := by show pktL h bs = _; simp [pktL, hk2]
      have hd' : (h 2 == 2048) = true := by simp [hk2]
      have h20 : 20 ≤ ahead h := by have := psz_bd (h 6); simp [ahead, hk2]; omega
      have hl1 := ipL_len h (ahead h + bs.length)
      clear hk hk2 HC hA
      go_wp2_with (refine ldPH (.tmp 26) rfl _ rfl rfl h _ K1 ?_)
      refine (apIP base h bs.length v1 _ w1 (by omega) (by omega) h20 E1.out.own (by simp only [List.length_append]; omega) hbase1).mono ?_
      rintro e w2 ⟨v2, rfl, X2⟩
      have K2 := X2.block E1.out.own K1 (by decide)
      have hbel : Below base w1 w2 := X2.below E1.out.own hbase1
      have S2 : Hid (Sl B w2 (.slice ao bs.length cap) bs) := S1.out.on (hbel.mono hB)
      have E2 : Hid (Ext base w v w2 v2 (xs ++ ethL h ++ ipL h (ahead h + bs.length))) := E1.out.trans X2
      have hbase2 : base ≤ w2.heap.size := Nat.le_trans hbase1 hbel.size
      have c11' := PBlk.last (v := .slice ao bs.length cap) K2
      clear E1 S1 X2 hbel K1 c2 c11 K2
      go_wp2_with (at_builtin; refine app22 (.tmp 32) (.tmp 34) rfl rfl rfl rfl E2.out.own S2.out hbase2 (by simp only [List.length_append]; omega) ?_; intro v3 w3 X3)
      have E3 : Hid (Ext base w v w3 v3 (xs ++ ethL h ++ ipL h (ahead h + bs.length) ++ bs)) := E2.out.trans X3
      clear X3 E2 S2
      go_wp2
      go_ret
      exact ⟨v3, rfl, by rw [HT.out]; simpa only [List.append_assoc] using E3.out⟩
    · have HT : Hid (pktL h bs = ethL h ++ bs) := by show pktL h bs = _; simp [pktL, hk, hk2]
      have hd' : (h 2 == 2048) = false := by simp [hk2]
      clear hk hk2 HC hA
      go_wp2_with (at_builtin; refine app22 (.tmp 32) (.tmp 34) rfl rfl rfl rfl E1.out.own S1.out hbase1 (by simp only [List.length_append]; omega) ?_; intro v3 w3 X3)
      have E3 : Hid (Ext base w v w3 v3 (xs ++ ethL h ++ bs)) := E1.out.trans X3
      clear X3 E1 S1
      go_wp2
      go_ret
      exact ⟨v3, rfl, by rw [HT.out]; simpa only [List.append_assoc] using E3.out⟩

/-- What Build answers: the error. -/
def bErr (h : Nat → Int) (bs : List Int) : Int :=
  if hOk h = false then 10 else if h 2 = 2054 ∧ isOp bs = false then 30 else if 1500 - ahead h < bs.length then 3 else 0
/-- What Build answers: the bytes. -/
def bOut (h : Nat → Int) (bs : List Int) : List Int := if bErr h bs = 0 then pktL h bs else []
theorem isOp_ne {bs : List Int} (h : isOp bs = true) : bs ≠ [] := by
  rintro rfl
  simp [isOp] at h

set_option maxHeartbeats 1600000 in
/-- Build, where header.Check has no error and the body is an operation if it must. -/
theorem build_ok (B : Nat) (h : Nat → Int) (vb : Value) (bs : List Int) (w : World) (hw : Tab w) (hB : B ≤ w.heap.size) (hs : Sl B w vb bs) (h1 : hOk h = true) (h2 : h 2 = 2054 → isOp bs = true) :
    Calls Tryd.prog 23 #[pv h vb] w fun e w' => ∃ v', e = .returned (.tuple #[v', .int .i64 (bErr h bs)]) ∧ Below w.heap.size w w' ∧ Owns w.heap.size w' v' (bOut h bs) := by
  have K0 := PBlk.new w h vb
  have hl0 : Below w.heap.size w (w.alloc (.cells (prow h vb) 32)) := (Below.refl _ _).alloc (Nat.le_refl _) _
  have hC : Hid (Calls Tryd.prog 32 #[hv h] (w.alloc (.cells (prow h vb) 32)) fun e w' => e = .returned (.int .i64 0) ∧ Below (w.alloc (.cells (prow h vb) 32)).heap.size (w.alloc (.cells (prow h vb) 32)) w') := by
    have := check_any h (w.alloc (.cells (prow h vb) 32)) (hw.on hl0)
    rwa [show chk h = 0 by simp [chk, h1]] at this
  have hE0 : Hid (bErr h bs = if 1500 - ahead h < bs.length then 3 else 0) := by
    show bErr h bs = _
    unfold bErr
    rw [if_neg (by simp [h1]), if_neg]
    rintro ⟨ha, hb⟩
    rw [h2 ha] at hb; cases hb
  have HA : Hid (h 2 = 2054 → bs ≠ []) := fun ha => isOp_ne (h2 ha)
  have H2 : Hid (h 2 = 2054 → isOp bs = true) := h2
  clear hw h1 h2
  go_enter Tryd.func23, Tryd.ntmps23
  go_wp2_with (refine ldPH (.tmp 5) rfl _ rfl rfl h vb K0 ?_)
  go_fit hC.out
  rintro e w1 ⟨rfl, hb1⟩
  have K1 : PBlk w1 w.heap.size h vb := K0.on hb1
  have hl1 : Below w.heap.size w w1 := hl0.trans (hb1.mono hl0.size)
  have S1 : Hid (Sl B w1 vb bs) := hs.on (hl1.mono hB)
  have hlen := hs.len
  have hah := ahead_bd h
  clear K0 hC hb1 hl0 hs
  have S1' : Hid (Sl B w1 vb bs) := S1
  obtain ⟨ao, cap, rfl, _, _, _, _, _⟩ := S1'.out
  clear S1'
  have c2 := K1.cell 2 (by omega)
  have c11 := K1.last
  have HK : Hid (PBlk w1 w.heap.size h (.slice ao bs.length cap)) := K1
  clear K1
  by_cases hk : h 2 = 2054
  · have hd : (h 2 == 2054) = true := by simp [hk]
    have HI : Hid (Calls Tryd.prog 33 #[.slice ao bs.length cap] w1 fun e w' => e = .returned (.bool true) ∧ w' = w1) := by
      have := isOperation_any B _ bs w1 S1.out
      rwa [H2.out hk] at this
    clear hk H2
    go_wp2_with (go_at_call 33; refine (HI.out).mono ?_; rintro e w1 ⟨rfl, rfl⟩)
    clear HI
    refine wp_region_noPanic ?_
    refine wp_region_held_drew (S := (fun w' => PBlk w' w.heap.size h (.slice ao bs.length cap))) (by kernel_rfl) (HK.out) (fun hHeld => ?_)
    have S2 : Hid (Sl B w1.drew (.slice ao bs.length cap) bs) := S1
    have hl2 : Below w.heap.size w w1.drew := hl1.drew
    clear S1 hl1 HK c2 c11
    refine wpAnyH_take (i := 0) (v := ?_) rfl (by kernel_rfl) (by kernel_rfl) (by kernel_rfl) (fun _ _ _ h => h) (Or.inl ⟨by rfl, ?_⟩) hHeld ?_
    rotate_left
    · intro w hSw
      go_simp
      first | done | with_reducible rfl
    simp only [Act.put, List.getElem_toArray, List.getElem_cons_zero, List.setIfInBounds_toArray, List.set_cons_zero, List.set_cons_succ]
    refine wpAnyH_take (i := 1) (v := ?_) rfl (by kernel_rfl) (by kernel_rfl) (by kernel_rfl) (fun _ _ _ h => h) (Or.inl ⟨by rfl, ?_⟩) hHeld ?_
    rotate_left
    · intro w hSw
      have hc := hSw.last
      go_simp
      first | done | with_reducible rfl
    simp only [Act.put, List.getElem_toArray, List.getElem_cons_succ, List.getElem_cons_zero, List.setIfInBounds_toArray, List.set_cons_zero, List.set_cons_succ]
    refine wpAnyH_take (i := 2) (v := ?_) rfl (by kernel_rfl) (by kernel_rfl) (by kernel_rfl) (fun _ _ _ h => h) (Or.inl ⟨by rfl, ?_⟩) hHeld ?_
    rotate_left
    · intro w hSw
      go_simp
      first | done | with_reducible rfl
    simp only [Act.put, List.getElem_toArray, List.getElem_cons_succ, List.getElem_cons_zero, List.setIfInBounds_toArray, List.set_cons_zero, List.set_cons_succ]
    refine wpAnyH_take (i := 3) (v := ?_) rfl (by kernel_rfl) (by kernel_rfl) (by kernel_rfl) (fun _ _ _ h => h) (Or.inl ⟨by rfl, ?_⟩) hHeld ?_
    rotate_left
    · intro w hSw
      go_simp
      first | done | with_reducible rfl
    simp only [Act.put, List.getElem_toArray, List.getElem_cons_succ, List.getElem_cons_zero, List.setIfInBounds_toArray, List.set_cons_zero, List.set_cons_succ]
    refine wpAnyH_take (i := 4) rfl (by kernel_rfl) (by kernel_rfl) (by kernel_rfl) (fun _ _ _ h => h) (yPH (.tmp 24) rfl _ rfl rfl h _ (fun _ hh => hh)) hHeld ?_
    simp only [Act.put, List.getElem_toArray, List.getElem_cons_succ, List.getElem_cons_zero, List.setIfInBounds_toArray, List.set_cons_zero, List.set_cons_succ]
    refine wpAnyH_ready (rs := [5]) (by kernel_rfl) (by simp) ?_
    refine AllReadyH.cons rfl (fun K hK => ?_) AllReadyH.nil
    go_simp
    go_fit (sizeAhead_any h _)
    rintro e w2 ⟨rfl, hb2⟩
    go_simp
    refine hK.out _ _ (hHeld.on hb2) (fun hHeld => ?_)
    clear hK K
    have S3 : Hid (Sl B w2 (.slice ao bs.length cap) bs) := S2.out.on (hb2.mono (Nat.le_trans hB hl2.size))
    have hl3 : Below w.heap.size w w2 := hl2.trans (hb2.mono hl2.size)
    clear S2 hl2 hb2
    refine wpAnyH_take (i := 6) (v := ?_) rfl (by kernel_rfl) (by kernel_rfl) (by kernel_rfl) (fun _ _ _ h => h) (Or.inl ⟨by rfl, ?_⟩) hHeld ?_
    rotate_left
    · intro w hSw
      go_simp
      first | done | with_reducible rfl
    simp only [Act.put, List.getElem_toArray, List.getElem_cons_succ, List.getElem_cons_zero, List.setIfInBounds_toArray, List.set_cons_zero, List.set_cons_succ]
    rw [show IntKind.i64.wrap (1500 - ahead h) = 1500 - ahead h by rw [IntKind.wrap_i64]; omega]
    refine wpAnyH_take (i := 7) (v := ?_) rfl (by kernel_rfl) (by kernel_rfl) (by kernel_rfl) (fun _ _ _ h => h) (Or.inl ⟨by rfl, ?_⟩) hHeld ?_
    rotate_left
    · intro w hSw
      go_simp
      first | done | with_reducible rfl
    simp only [Act.put, List.getElem_toArray, List.getElem_cons_succ, List.getElem_cons_zero, List.setIfInBounds_toArray, List.set_cons_zero, List.set_cons_succ]
    refine wpAnyH_done (by kernel_rfl) ?_ _
    refine NoPanic.normal ?_
    have K3 : PBlk w2 w.heap.size h (.slice ao bs.length cap) := hHeld
    clear hHeld
    by_cases hlong : 1500 - ahead h < bs.length
    · have HF : Hid (bErr h bs = 3) := by show bErr h bs = 3; rw [hE0.out, if_pos hlong]
      clear K3 S3
      go_wp2
      go_ret2
      refine ⟨nilS, by rw [HF.out]; rfl, hl3, ?_⟩
      rw [show bOut h bs = [] by simp [bOut, HF.out]]
      exact Owns.isNil
    · have HF : Hid (bErr h bs = 0) := by show bErr h bs = 0; rw [hE0.out, if_neg hlong]
      go_wp2_with (refine ld27 (.tmp 1) rfl _ rfl rfl h _ K3 ?_)
      go_fit (apPkt w.heap.size B h nilS (.slice ao bs.length cap) [] bs w2 Owns.isNil (by simp) hl3.size hB S3.out (by omega) HA.out)
      rintro e w4 ⟨v4, rfl, X⟩
      rw [List.nil_append] at X
      have hl4 : Below w.heap.size w w4 := hl3.trans (X.belowNil.mono hl3.size)
      have hO : Hid (Owns w.heap.size w4 v4 (bOut h bs)) := by
        show Owns _ _ _ _
        rw [show bOut h bs = pktL h bs by simp [bOut, HF.out]]
        exact X.own
      clear X S3 K3 hl3
      go_wp2
      go_ret2
      exact ⟨v4, by rw [HF.out]; rfl, hl4, hO.out⟩
  · have hd : (h 2 == 2054) = false := by simp [hk]
    clear hk H2
    go_wp2_with fail
    refine wp_region_noPanic ?_
    refine wp_region_held_drew (S := (fun w' => PBlk w' w.heap.size h (.slice ao bs.length cap))) (by kernel_rfl) (HK.out) (fun hHeld => ?_)
    have S2 : Hid (Sl B w1.drew (.slice ao bs.length cap) bs) := S1
    have hl2 : Below w.heap.size w w1.drew := hl1.drew
    clear S1 hl1 HK c2 c11
    refine wpAnyH_take (i := 0) (v := ?_) rfl (by kernel_rfl) (by kernel_rfl) (by kernel_rfl) (fun _ _ _ h => h) (Or.inl ⟨by rfl, ?_⟩) hHeld ?_
    rotate_left
    · intro w hSw
      go_simp
      first | done | with_reducible rfl
    simp only [Act.put, List.getElem_toArray, List.getElem_cons_zero, List.setIfInBounds_toArray, List.set_cons_zero, List.set_cons_succ]
    refine wpAnyH_take (i := 1) (v := ?_) rfl (by kernel_rfl) (by kernel_rfl) (by kernel_rfl) (fun _ _ _ h => h) (Or.inl ⟨by rfl, ?_⟩) hHeld ?_
    rotate_left
    · intro w hSw
      have hc := hSw.last
      go_simp
      first | done | with_reducible rfl
    simp only [Act.put, List.getElem_toArray, List.getElem_cons_succ, List.getElem_cons_zero, List.setIfInBounds_toArray, List.set_cons_zero, List.set_cons_succ]
    refine wpAnyH_take (i := 2) (v := ?_) rfl (by kernel_rfl) (by kernel_rfl) (by kernel_rfl) (fun _ _ _ h => h) (Or.inl ⟨by rfl, ?_⟩) hHeld ?_
    rotate_left
    · intro w hSw
      go_simp
      first | done | with_reducible rfl
    simp only [Act.put, List.getElem_toArray, List.getElem_cons_succ, List.getElem_cons_zero, List.setIfInBounds_toArray, List.set_cons_zero, List.set_cons_succ]
    refine wpAnyH_take (i := 3) (v := ?_) rfl (by kernel_rfl) (by kernel_rfl) (by kernel_rfl) (fun _ _ _ h => h) (Or.inl ⟨by rfl, ?_⟩) hHeld ?_
    rotate_left
    · intro w hSw
      go_simp
      first | done | with_reducible rfl
    simp only [Act.put, List.getElem_toArray, List.getElem_cons_succ, List.getElem_cons_zero, List.setIfInBounds_toArray, List.set_cons_zero, List.set_cons_succ]
    refine wpAnyH_take (i := 4) rfl (by kernel_rfl) (by kernel_rfl) (by kernel_rfl) (fun _ _ _ h => h) (yPH (.tmp 24) rfl _ rfl rfl h _ (fun _ hh => hh)) hHeld ?_
    simp only [Act.put, List.getElem_toArray, List.getElem_cons_succ, List.getElem_cons_zero, List.setIfInBounds_toArray, List.set_cons_zero, List.set_cons_succ]
    refine wpAnyH_ready (rs := [5]) (by kernel_rfl) (by simp) ?_
    refine AllReadyH.cons rfl (fun K hK => ?_) AllReadyH.nil
    go_simp
    go_fit (sizeAhead_any h _)
    rintro e w2 ⟨rfl, hb2⟩
    go_simp
    refine hK.out _ _ (hHeld.on hb2) (fun hHeld => ?_)
    clear hK K
    have S3 : Hid (Sl B w2 (.slice ao bs.length cap) bs) := S2.out.on (hb2.mono (Nat.le_trans hB hl2.size))
    have hl3 : Below w.heap.size w w2 := hl2.trans (hb2.mono hl2.size)
    clear S2 hl2 hb2
    refine wpAnyH_take (i := 6) (v := ?_) rfl (by kernel_rfl) (by kernel_rfl) (by kernel_rfl) (fun _ _ _ h => h) (Or.inl ⟨by rfl, ?_⟩) hHeld ?_
    rotate_left
    · intro w hSw
      go_simp
      first | done | with_reducible rfl
    simp only [Act.put, List.getElem_toArray, List.getElem_cons_succ, List.getElem_cons_zero, List.setIfInBounds_toArray, List.set_cons_zero, List.set_cons_succ]
    rw [show IntKind.i64.wrap (1500 - ahead h) = 1500 - ahead h by rw [IntKind.wrap_i64]; omega]
    refine wpAnyH_take (i := 7) (v := ?_) rfl (by kernel_rfl) (by kernel_rfl) (by kernel_rfl) (fun _ _ _ h => h) (Or.inl ⟨by rfl, ?_⟩) hHeld ?_
    rotate_left
    · intro w hSw
      go_simp
      first | done | with_reducible rfl
    simp only [Act.put, List.getElem_toArray, List.getElem_cons_succ, List.getElem_cons_zero, List.setIfInBounds_toArray, List.set_cons_zero, List.set_cons_succ]
    refine wpAnyH_done (by kernel_rfl) ?_ _
    refine NoPanic.normal ?_
    have K3 : PBlk w2 w.heap.size h (.slice ao bs.length cap) := hHeld
    clear hHeld
    by_cases hlong : 1500 - ahead h < bs.length
    · have HF : Hid (bErr h bs = 3) := by show bErr h bs = 3; rw [hE0.out, if_pos hlong]
      clear K3 S3
      go_wp2
      go_ret2
      refine ⟨nilS, by rw [HF.out]; rfl, hl3, ?_⟩
      rw [show bOut h bs = [] by simp [bOut, HF.out]]
      exact Owns.isNil
    · have HF : Hid (bErr h bs = 0) := by show bErr h bs = 0; rw [hE0.out, if_neg hlong]
      go_wp2_with (refine ld27 (.tmp 1) rfl _ rfl rfl h _ K3 ?_)
      go_fit (apPkt w.heap.size B h nilS (.slice ao bs.length cap) [] bs w2 Owns.isNil (by simp) hl3.size hB S3.out (by omega) HA.out)
      rintro e w4 ⟨v4, rfl, X⟩
      rw [List.nil_append] at X
      have hl4 : Below w.heap.size w w4 := hl3.trans (X.belowNil.mono hl3.size)
      have hO : Hid (Owns w.heap.size w4 v4 (bOut h bs)) := by
        show Owns _ _ _ _
        rw [show bOut h bs = pktL h bs by simp [bOut, HF.out]]
        exact X.own
      clear X S3 K3 hl3
      go_wp2
      go_ret2
      exact ⟨v4, by rw [HF.out]; rfl, hl4, hO.out⟩

set_option maxHeartbeats 800000 in
theorem build_field (B : Nat) (h : Nat → Int) (vb : Value) (bs : List Int) (w : World) (hw : Tab w) (_hs : Sl B w vb bs) (h1 : hOk h = false) :
    Calls Tryd.prog 23 #[pv h vb] w fun e w' => e = .returned (.tuple #[nilS, .int .i64 10]) ∧ Below w.heap.size w w' := by
  have K0 := PBlk.new w h vb
  have hl0 : Below w.heap.size w (w.alloc (.cells (prow h vb) 32)) := (Below.refl _ _).alloc (Nat.le_refl _) _
  have hC : Hid (Calls Tryd.prog 32 #[hv h] (w.alloc (.cells (prow h vb) 32)) fun e w' => e = .returned (.int .i64 10) ∧ Below (w.alloc (.cells (prow h vb) 32)).heap.size (w.alloc (.cells (prow h vb) 32)) w') := by
    have := check_any h (w.alloc (.cells (prow h vb) 32)) (hw.on hl0)
    rwa [show chk h = 10 by simp [chk, h1]] at this
  clear hw h1
  go_enter Tryd.func23, Tryd.ntmps23
  go_wp2_with (refine ldPH (.tmp 5) rfl _ rfl rfl h vb K0 ?_)
  go_fit hC.out
  rintro e w1 ⟨rfl, hb1⟩
  have hl1 : Below w.heap.size w w1 := hl0.trans (hb1.mono hl0.size)
  clear K0 hC hb1 hl0
  go_wp2
  go_ret2
  exact ⟨rfl, hl1⟩

set_option maxHeartbeats 800000 in
theorem build_op (B : Nat) (h : Nat → Int) (vb : Value) (bs : List Int) (w : World) (hw : Tab w) (hB : B ≤ w.heap.size) (hs : Sl B w vb bs) (h1 : hOk h = true) (h2 : h 2 = 2054) (h3 : isOp bs = false) :
    Calls Tryd.prog 23 #[pv h vb] w fun e w' => e = .returned (.tuple #[nilS, .int .i64 30]) ∧ Below w.heap.size w w' := by
  have K0 := PBlk.new w h vb
  have hl0 : Below w.heap.size w (w.alloc (.cells (prow h vb) 32)) := (Below.refl _ _).alloc (Nat.le_refl _) _
  have hC : Hid (Calls Tryd.prog 32 #[hv h] (w.alloc (.cells (prow h vb) 32)) fun e w' => e = .returned (.int .i64 0) ∧ Below (w.alloc (.cells (prow h vb) 32)).heap.size (w.alloc (.cells (prow h vb) 32)) w') := by
    have := check_any h (w.alloc (.cells (prow h vb) 32)) (hw.on hl0)
    rwa [show chk h = 0 by simp [chk, h1]] at this
  have hd : (h 2 == 2054) = true := by simp [h2]
  clear hw h1 h2
  go_enter Tryd.func23, Tryd.ntmps23
  go_wp2_with (refine ldPH (.tmp 5) rfl _ rfl rfl h vb K0 ?_)
  go_fit hC.out
  rintro e w1 ⟨rfl, hb1⟩
  have K1 : PBlk w1 w.heap.size h vb := K0.on hb1
  have hl1 : Below w.heap.size w w1 := hl0.trans (hb1.mono hl0.size)
  have HI : Hid (Calls Tryd.prog 33 #[vb] w1 fun e w' => e = .returned (.bool false) ∧ w' = w1) := by
    have := isOperation_any B vb bs w1 (hs.on (hl1.mono hB))
    rwa [h3] at this
  have c2 := K1.cell 2 (by omega)
  have c11 := K1.last
  clear K0 hC hb1 hl0 hs h3
  go_wp2_with (go_at_call 33; refine (HI.out).mono ?_; rintro e w' ⟨rfl, rfl⟩)
  go_ret2
  exact ⟨rfl, hl1⟩

/-- WHAT Build ANSWERS. -/
theorem build_any (B : Nat) (h : Nat → Int) (vb : Value) (bs : List Int) (w : World) (hw : Tab w) (hB : B ≤ w.heap.size) (hs : Sl B w vb bs) :
    Calls Tryd.prog 23 #[pv h vb] w fun e w' => ∃ v', e = .returned (.tuple #[v', .int .i64 (bErr h bs)]) ∧ Below w.heap.size w w' ∧ Owns w.heap.size w' v' (bOut h bs) := by
  cases h1 : hOk h
  · have e1 : bErr h bs = 10 := by simp [bErr, h1]
    have e2 : bOut h bs = [] := by simp [bOut, e1]
    rw [e1, e2]
    refine (build_field B h vb bs w hw hs h1).mono ?_
    rintro e w' ⟨rfl, hb⟩
    exact ⟨nilS, rfl, hb, Owns.isNil⟩
  · by_cases h2 : h 2 = 2054 ∧ isOp bs = false
    · have e1 : bErr h bs = 30 := by simp [bErr, h1, h2]
      have e2 : bOut h bs = [] := by simp [bOut, e1]
      rw [e1, e2]
      refine (build_op B h vb bs w hw hB hs h1 h2.1 h2.2).mono ?_
      rintro e w' ⟨rfl, hb⟩
      exact ⟨nilS, rfl, hb, Owns.isNil⟩
    · exact build_ok B h vb bs w hw hB hs h1 (fun ha => by
        cases hq : isOp bs
        · exact absurd ⟨ha, hq⟩ h2
        · rfl)
end Go.Proofs.YtioohgcaakcgaaaDoor
