/-
  Proved here: appendEthernet, appendARP, appendHead, headSum and appendPorts of package frame append the bytes that 'ethL', 'arpL', 'headL', 'portsL' say. Conditions: the slice is nil or the call's own, of at most 3000 bytes; lengths below 65536.
-/
import Derived.Test.YtioohgcaakcgaaaDoorA1
import Derived.Test.YtioohgcaakcgaaaDoorS1
namespace Go.Proofs.YtioohgcaakcgaaaDoor
open Go.RowKit

def headL (h : Nat → Int) (len sum : Int) : List Int := dg 17664 2 ++ (dg len 2 ++ (dg 0 4 ++ (dg 64 1 ++ (dg (h 6) 1 ++ (dg sum 2 ++ (dg (h 4) 4 ++ dg (h 5) 4))))))
def tgt (h : Nat → Int) (op : Int) : Int := if op = 1 then 0 else h 1
def arpL (h : Nat → Int) (op : Int) : List Int := dg 4429186564 6 ++ (dg op 2 ++ (dg (h 0) 6 ++ (dg (h 4) 4 ++ (dg (tgt h op) 6 ++ dg (h 5) 4))))
def tagL (h : Nat → Int) : List Int := if h 3 = 0 then [] else dg 33024 2 ++ dg (h 3) 2
def ethL (h : Nat → Int) : List Int := dg (h 1) 6 ++ (dg (h 0) 6 ++ (tagL h ++ dg (h 2) 2))
def portsL (h : Nat → Int) (len : Int) : List Int :=
  if h 6 = 6 then dg (h 7) 2 ++ (dg (h 8) 2 ++ (dg 0 8 ++ (dg 20496 2 ++ dg 0 6))) else if h 6 = 17 then dg (h 7) 2 ++ (dg (h 8) 2 ++ (dg len 2 ++ dg 0 2)) else []
theorem Ext.on {base : Nat} {w w1 w2 : World} {v v1 : Value} {xs : List Int} (h : Ext base w v w1 v1 xs) (hb : Below w1.heap.size w1 w2) : Ext base w v w2 v1 xs := by
  refine h.trans ⟨?_, ⟨hb.os, hb.tape, hb.output, hb.size, fun k hk _ => hb.block k hk⟩, fun _ hk _ => hk⟩
  refine h.own.kept (row := none) ⟨hb.os, hb.tape, hb.output, hb.size, fun k hk _ => hb.block k hk⟩ ?_
  cases v1.ownBlock <;> simp
theorem apn (base k : Nat) (K n : Int) (v : Value) (xs : List Int) (w : World) (hK : K = k) (hk : k ≤ 8) (hown : Owns base w v xs) (hlen : xs.length ≤ 4096) (hbase : base ≤ w.heap.size) :
    Calls Tryd.prog 50 #[v, .int .i64 K, .int .u64 n] w fun e w' => ∃ v', e = .returned v' ∧ Ext base w v w' v' (xs ++ dg n k) := by
  subst hK; exact apn_any base k n v xs w hk hown hlen hbase
/-- The box of a header ahead of what is appended. -/
theorem ext_box {base : Nat} {w : World} {v : Value} {xs : List Int} (o : Obj) (h : Owns base w v xs) : Ext base w v (w.alloc o) v xs := ⟨h.alloc o, World.grownBy_alloc w o _, fun _ hk _ => hk⟩

set_option maxHeartbeats 800000 in
/-- appendHead. -/
theorem apHead (base : Nat) (h : Nat → Int) (len sum : Int) (v : Value) (xs : List Int) (w : World) (l0 : 0 ≤ len) (l1 : len < 65536) (hown : Owns base w v xs) (hlen : xs.length ≤ 3000) (hbase : base ≤ w.heap.size) :
    Calls Tryd.prog 48 #[v, hv h, .int .i64 len, .int .u64 sum] w fun e w' => ∃ v', e = .returned v' ∧ Ext base w v w' v' (xs ++ headL h len sum) := by
  have K0 := Blk.new w 11 30 h
  have E0 : Hid (Ext base w v (w.alloc (.cells (row 11 h) 30)) v xs) := ext_box _ hown
  clear hown
  go_enter Tryd.func48, Tryd.ntmps48
  go_wp2_with fail
  refine (apn base 2 _ 17664 _ _ _ rfl (by decide) E0.out.own (by omega) (Nat.le_trans hbase E0.out.grown.size)).mono ?_
  rintro e w1 ⟨v1, rfl, X⟩
  have K1 : Blk w1 w.heap.size 11 30 h := X.block E0.out.own K0 (by decide)
  have E1 : Hid (Ext base w v w1 v1 (xs ++ dg 17664 2)) := E0.out.trans X
  clear X K0 E0
  go_wp2_with fail
  refine (apn base 2 _ len _ _ _ rfl (by decide) E1.out.own (by simp only [List.length_append, dg_len]; omega) (Nat.le_trans hbase E1.out.grown.size)).mono ?_
  rintro e w2 ⟨v2, rfl, X⟩
  have K2 : Blk w2 w.heap.size 11 30 h := X.block E1.out.own K1 (by decide)
  have E2 : Hid (Ext base w v w2 v2 (xs ++ dg 17664 2 ++ dg len 2)) := E1.out.trans X
  clear X K1 E1
  go_wp2_with fail
  refine (apn base 4 _ 0 _ _ _ rfl (by decide) E2.out.own (by simp only [List.length_append, dg_len]; omega) (Nat.le_trans hbase E2.out.grown.size)).mono ?_
  rintro e w3 ⟨v3, rfl, X⟩
  have K3 : Blk w3 w.heap.size 11 30 h := X.block E2.out.own K2 (by decide)
  have E3 : Hid (Ext base w v w3 v3 (xs ++ dg 17664 2 ++ dg len 2 ++ dg 0 4)) := E2.out.trans X
  clear X K2 E2
  go_wp2_with fail
  refine (apn base 1 _ 64 _ _ _ rfl (by decide) E3.out.own (by simp only [List.length_append, dg_len]; omega) (Nat.le_trans hbase E3.out.grown.size)).mono ?_
  rintro e w4 ⟨v4, rfl, X⟩
  have K4 : Blk w4 w.heap.size 11 30 h := X.block E3.out.own K3 (by decide)
  have E4 : Hid (Ext base w v w4 v4 (xs ++ dg 17664 2 ++ dg len 2 ++ dg 0 4 ++ dg 64 1)) := E3.out.trans X
  clear X K3 E3
  have c6 := K4.cell 6 (by omega)
  go_wp2_with fail
  refine (apn base 1 _ (h 6) _ _ _ rfl (by decide) E4.out.own (by simp only [List.length_append, dg_len]; omega) (Nat.le_trans hbase E4.out.grown.size)).mono ?_
  rintro e w5 ⟨v5, rfl, X⟩
  have K5 : Blk w5 w.heap.size 11 30 h := X.block E4.out.own K4 (by decide)
  have E5 : Hid (Ext base w v w5 v5 (xs ++ dg 17664 2 ++ dg len 2 ++ dg 0 4 ++ dg 64 1 ++ dg (h 6) 1)) := E4.out.trans X
  clear X c6 K4 E4
  go_wp2_with fail
  refine (apn base 2 _ sum _ _ _ rfl (by decide) E5.out.own (by simp only [List.length_append, dg_len]; omega) (Nat.le_trans hbase E5.out.grown.size)).mono ?_
  rintro e w6 ⟨v6, rfl, X⟩
  have K6 : Blk w6 w.heap.size 11 30 h := X.block E5.out.own K5 (by decide)
  have E6 : Hid (Ext base w v w6 v6 (xs ++ dg 17664 2 ++ dg len 2 ++ dg 0 4 ++ dg 64 1 ++ dg (h 6) 1 ++ dg sum 2)) := E5.out.trans X
  clear X K5 E5
  have c4 := K6.cell 4 (by omega)
  go_wp2_with fail
  refine (apn base 4 _ (h 4) _ _ _ rfl (by decide) E6.out.own (by simp only [List.length_append, dg_len]; omega) (Nat.le_trans hbase E6.out.grown.size)).mono ?_
  rintro e w7 ⟨v7, rfl, X⟩
  have K7 : Blk w7 w.heap.size 11 30 h := X.block E6.out.own K6 (by decide)
  have E7 : Hid (Ext base w v w7 v7 (xs ++ dg 17664 2 ++ dg len 2 ++ dg 0 4 ++ dg 64 1 ++ dg (h 6) 1 ++ dg sum 2 ++ dg (h 4) 4)) := E6.out.trans X
  clear X c4 K6 E6
  have c5 := K7.cell 5 (by omega)
  go_wp2_with fail
  refine (apn base 4 _ (h 5) _ _ _ rfl (by decide) E7.out.own (by simp only [List.length_append, dg_len]; omega) (Nat.le_trans hbase E7.out.grown.size)).mono ?_
  rintro e w8 ⟨v8, rfl, X⟩
  have K8 : Blk w8 w.heap.size 11 30 h := X.block E7.out.own K7 (by decide)
  have E8 : Hid (Ext base w v w8 v8 (xs ++ dg 17664 2 ++ dg len 2 ++ dg 0 4 ++ dg 64 1 ++ dg (h 6) 1 ++ dg sum 2 ++ dg (h 4) 4 ++ dg (h 5) 4)) := E7.out.trans X
  clear X c5 K7 E7
  go_wp2
  go_ret
  exact ⟨v8, rfl, by simpa only [headL, List.append_assoc] using E8.out⟩

set_option maxHeartbeats 400000 in
/-- target. -/
theorem target_any (h : Nat → Int) (op : Int) (w : World) :
    Calls Tryd.prog 39 #[hv h, .int .u64 op] w fun e w' => e = .returned (.int .u64 (tgt h op)) ∧ Below w.heap.size w w' := by
  have r1 := row_at 11 h 1 (by omega)
  have hl : Below w.heap.size w (w.alloc (.cells (row 11 h) 30)) := (Below.refl _ _).alloc (Nat.le_refl _) _
  by_cases hop : op = 1
  · have hd : (op == 1) = true := by simpa using hop
    have HT : Hid (tgt h op = 0) := by show tgt h op = 0; simp [tgt, hop]
    clear hop
    go_enter Tryd.func39, Tryd.ntmps39
    go_wp2
    go_ret
    exact ⟨by rw [HT.out]; rfl, hl⟩
  · have hd : (op == 1) = false := by simpa using hop
    have HT : Hid (tgt h op = h 1) := by show tgt h op = h 1; simp [tgt, hop]
    clear hop
    go_enter Tryd.func39, Tryd.ntmps39
    go_wp2
    go_ret
    exact ⟨by rw [HT.out]; rfl, hl⟩

def hsum (h : Nat → Int) (len : Int) : Int := sumL (headL h len 0)
theorem headL_len (h : Nat → Int) (len sum : Int) : (headL h len sum).length = 20 := by simp only [headL, List.length_append, dg_len]
theorem headL_isB (h : Nat → Int) (len sum : Int) : IsB (headL h len sum) :=
  (dg_isB _ _).app ((dg_isB _ _).app ((dg_isB _ _).app ((dg_isB _ _).app ((dg_isB _ _).app ((dg_isB _ _).app ((dg_isB _ _).app (dg_isB _ _)))))))
theorem sumL_bd {bs : List Int} (h : IsB bs) : 0 ≤ sumL bs ∧ sumL bs ≤ 65535 := by
  have h1 := totTo_bd h bs.length
  have h2 := fold_bd (s := tot bs) h1.1
  unfold sumL
  omega
set_option maxHeartbeats 400000 in
/-- headSum. -/
theorem headSum_any (h : Nat → Int) (len : Int) (w : World) (l0 : 0 ≤ len) (l1 : len < 65536) :
    Calls Tryd.prog 40 #[hv h, .int .i64 len] w fun e w' => e = .returned (.int .u64 (hsum h len)) ∧ Below w.heap.size w w' := by
  have K0 := Blk.new w 11 30 h
  have hl : Below w.heap.size w (w.alloc (.cells (row 11 h) 30)) := (Below.refl _ _).alloc (Nat.le_refl _) _
  go_enter Tryd.func40, Tryd.ntmps40
  go_wp2_with (refine ld25 (.tmp 2) rfl _ rfl rfl h K0 ?_)
  refine (apHead (w.alloc (.cells (row 11 h) 30)).heap.size h len 0 nilS [] _ l0 l1 Owns.isNil (by simp) (Nat.le_refl _)).mono ?_
  rintro e w1 ⟨v1, rfl, X⟩
  rw [List.nil_append] at X
  have hs := Sl.own X.own (by rw [headL_len]; omega) (headL_isB _ _ _)
  have hb := hl.trans (X.belowNil.mono hl.size)
  have hq := sumL_bd (headL_isB h len 0)
  obtain ⟨q, hq'⟩ : ∃ q, q = sumL (headL h len 0) := ⟨_, rfl⟩
  have HS : Hid (Calls Tryd.prog 47 #[v1] w1 fun e w' => e = .returned (.int .u16 q) ∧ w' = w1) := by rw [hq']; exact sum_any _ v1 _ w1 hs
  have HQ : Hid (q = hsum h len) := hq'
  rw [← hq'] at hq
  clear X K0 hl hs hq'
  go_wp2_with fail
  go_fit HS.out
  rintro e w2 ⟨rfl, rfl⟩
  go_wp2
  go_ret
  exact ⟨by rw [← HQ.out]; rfl, hb⟩

set_option maxHeartbeats 800000 in
/-- appendARP. -/
theorem apARP (base : Nat) (h : Nat → Int) (op : Int) (v : Value) (xs : List Int) (w : World) (hown : Owns base w v xs) (hlen : xs.length ≤ 3000) (hbase : base ≤ w.heap.size) :
    Calls Tryd.prog 45 #[v, hv h, .int .u64 op] w fun e w' => ∃ v', e = .returned v' ∧ Ext base w v w' v' (xs ++ arpL h op) := by
  have K0 := Blk.new w 11 30 h
  have E0 : Hid (Ext base w v (w.alloc (.cells (row 11 h) 30)) v xs) := ext_box _ hown
  clear hown
  go_enter Tryd.func45, Tryd.ntmps45
  go_wp2_with fail
  refine (apn base 6 _ 4429186564 _ _ _ rfl (by decide) E0.out.own (by omega) (Nat.le_trans hbase E0.out.grown.size)).mono ?_
  rintro e w1 ⟨v1, rfl, X⟩
  have K1 : Blk w1 w.heap.size 11 30 h := X.block E0.out.own K0 (by decide)
  have E1 : Hid (Ext base w v w1 v1 (xs ++ dg 4429186564 6)) := E0.out.trans X
  clear X K0 E0
  go_wp2_with fail
  refine (apn base 2 _ op _ _ _ rfl (by decide) E1.out.own (by simp only [List.length_append, dg_len]; omega) (Nat.le_trans hbase E1.out.grown.size)).mono ?_
  rintro e w2 ⟨v2, rfl, X⟩
  have K2 : Blk w2 w.heap.size 11 30 h := X.block E1.out.own K1 (by decide)
  have E2 : Hid (Ext base w v w2 v2 (xs ++ dg 4429186564 6 ++ dg op 2)) := E1.out.trans X
  clear X K1 E1
  have c0 := K2.cell 0 (by omega)
  go_wp2_with fail
  refine (apn base 6 _ (h 0) _ _ _ rfl (by decide) E2.out.own (by simp only [List.length_append, dg_len]; omega) (Nat.le_trans hbase E2.out.grown.size)).mono ?_
  rintro e w3 ⟨v3, rfl, X⟩
  have K3 : Blk w3 w.heap.size 11 30 h := X.block E2.out.own K2 (by decide)
  have E3 : Hid (Ext base w v w3 v3 (xs ++ dg 4429186564 6 ++ dg op 2 ++ dg (h 0) 6)) := E2.out.trans X
  clear X c0 K2 E2
  have c4 := K3.cell 4 (by omega)
  go_wp2_with fail
  refine (apn base 4 _ (h 4) _ _ _ rfl (by decide) E3.out.own (by simp only [List.length_append, dg_len]; omega) (Nat.le_trans hbase E3.out.grown.size)).mono ?_
  rintro e w4 ⟨v4, rfl, X⟩
  have K4 : Blk w4 w.heap.size 11 30 h := X.block E3.out.own K3 (by decide)
  have E4 : Hid (Ext base w v w4 v4 (xs ++ dg 4429186564 6 ++ dg op 2 ++ dg (h 0) 6 ++ dg (h 4) 4)) := E3.out.trans X
  clear X c4 K3 E3
  go_wp2_with (refine ld25 (.tmp 4) rfl _ rfl rfl h K4 ?_)
  refine (target_any h op w4).mono ?_
  rintro e w5 ⟨rfl, hb⟩
  have K5 : Blk w5 w.heap.size 11 30 h := K4.on hb
  have E5 : Hid (Ext base w v w5 v4 (xs ++ dg 4429186564 6 ++ dg op 2 ++ dg (h 0) 6 ++ dg (h 4) 4)) := E4.out.on hb
  clear K4 E4 hb
  go_wp2_with fail
  refine (apn base 6 _ (tgt h op) _ _ _ rfl (by decide) E5.out.own (by simp only [List.length_append, dg_len]; omega) (Nat.le_trans hbase E5.out.grown.size)).mono ?_
  rintro e w6 ⟨v6, rfl, X⟩
  have K6 : Blk w6 w.heap.size 11 30 h := X.block E5.out.own K5 (by decide)
  have E6 : Hid (Ext base w v w6 v6 (xs ++ dg 4429186564 6 ++ dg op 2 ++ dg (h 0) 6 ++ dg (h 4) 4 ++ dg (tgt h op) 6)) := E5.out.trans X
  clear X K5 E5
  have c5 := K6.cell 5 (by omega)
  go_wp2_with fail
  refine (apn base 4 _ (h 5) _ _ _ rfl (by decide) E6.out.own (by simp only [List.length_append, dg_len]; omega) (Nat.le_trans hbase E6.out.grown.size)).mono ?_
  rintro e w7 ⟨v7, rfl, X⟩
  have K7 : Blk w7 w.heap.size 11 30 h := X.block E6.out.own K6 (by decide)
  have E7 : Hid (Ext base w v w7 v7 (xs ++ dg 4429186564 6 ++ dg op 2 ++ dg (h 0) 6 ++ dg (h 4) 4 ++ dg (tgt h op) 6 ++ dg (h 5) 4)) := E6.out.trans X
  clear X c5 K6 E6
  go_wp2
  go_ret
  exact ⟨v7, rfl, by simpa only [arpL, List.append_assoc] using E7.out⟩

set_option maxHeartbeats 800000 in
/-- appendEthernet. -/
theorem apEth (base : Nat) (h : Nat → Int) (v : Value) (xs : List Int) (w : World) (hown : Owns base w v xs) (hlen : xs.length ≤ 3000) (hbase : base ≤ w.heap.size) :
    Calls Tryd.prog 44 #[v, hv h] w fun e w' => ∃ v', e = .returned v' ∧ Ext base w v w' v' (xs ++ ethL h) := by
  have K0 := Blk.new w 11 30 h
  have E0 : Hid (Ext base w v (w.alloc (.cells (row 11 h) 30)) v xs) := ext_box _ hown
  clear hown
  go_enter Tryd.func44, Tryd.ntmps44
  have c1 := K0.cell 1 (by omega)
  go_wp2_with fail
  refine (apn base 6 _ (h 1) _ _ _ rfl (by decide) E0.out.own (by omega) (Nat.le_trans hbase E0.out.grown.size)).mono ?_
  rintro e w1 ⟨v1, rfl, X⟩
  have K1 : Blk w1 w.heap.size 11 30 h := X.block E0.out.own K0 (by decide)
  have E1 : Hid (Ext base w v w1 v1 (xs ++ dg (h 1) 6)) := E0.out.trans X
  clear X c1 K0 E0
  have c0 := K1.cell 0 (by omega)
  go_wp2_with fail
  refine (apn base 6 _ (h 0) _ _ _ rfl (by decide) E1.out.own (by simp only [List.length_append, dg_len]; omega) (Nat.le_trans hbase E1.out.grown.size)).mono ?_
  rintro e w2 ⟨v2, rfl, X⟩
  have K2 : Blk w2 w.heap.size 11 30 h := X.block E1.out.own K1 (by decide)
  have E2 : Hid (Ext base w v w2 v2 (xs ++ dg (h 1) 6 ++ dg (h 0) 6)) := E1.out.trans X
  clear X c0 K1 E1
  by_cases h3 : h 3 = 0
  · have hd : (h 3 != 0) = false := by simp [h3]
    have HT : Hid (tagL h = []) := by show tagL h = []; simp [tagL, h3]
    clear h3
    have c3 := K2.cell 3 (by omega)
    have c2 := K2.cell 2 (by omega)
    go_wp2_with fail
    refine (apn base 2 _ (h 2) _ _ _ rfl (by decide) E2.out.own (by simp only [List.length_append, dg_len]; omega) (Nat.le_trans hbase E2.out.grown.size)).mono ?_
    rintro e w3 ⟨v3, rfl, X⟩
    have K3 : Blk w3 w.heap.size 11 30 h := X.block E2.out.own K2 (by decide)
    have E3 : Hid (Ext base w v w3 v3 (xs ++ dg (h 1) 6 ++ dg (h 0) 6 ++ dg (h 2) 2)) := E2.out.trans X
    clear X c2 K2 E2
    go_wp2
    go_ret
    exact ⟨v3, rfl, by simpa only [ethL, HT.out, List.nil_append, List.append_assoc] using E3.out⟩
  · have hd : (h 3 != 0) = true := by simp [h3]
    have HT : Hid (tagL h = dg 33024 2 ++ dg (h 3) 2) := by show tagL h = _; simp [tagL, h3]
    clear h3
    have c3 := K2.cell 3 (by omega)
    go_wp2_with fail
    refine (apn base 2 _ 33024 _ _ _ rfl (by decide) E2.out.own (by simp only [List.length_append, dg_len]; omega) (Nat.le_trans hbase E2.out.grown.size)).mono ?_
    rintro e w3 ⟨v3, rfl, X⟩
    have K3 : Blk w3 w.heap.size 11 30 h := X.block E2.out.own K2 (by decide)
    have E3 : Hid (Ext base w v w3 v3 (xs ++ dg (h 1) 6 ++ dg (h 0) 6 ++ dg 33024 2)) := E2.out.trans X
    clear X K2 E2
    have c3 := K3.cell 3 (by omega)
    go_wp2_with fail
    refine (apn base 2 _ (h 3) _ _ _ rfl (by decide) E3.out.own (by simp only [List.length_append, dg_len]; omega) (Nat.le_trans hbase E3.out.grown.size)).mono ?_
    rintro e w4 ⟨v4, rfl, X⟩
    have K4 : Blk w4 w.heap.size 11 30 h := X.block E3.out.own K3 (by decide)
    have E4 : Hid (Ext base w v w4 v4 (xs ++ dg (h 1) 6 ++ dg (h 0) 6 ++ dg 33024 2 ++ dg (h 3) 2)) := E3.out.trans X
    clear X c3 K3 E3
    have c2 := K4.cell 2 (by omega)
    go_wp2_with fail
    refine (apn base 2 _ (h 2) _ _ _ rfl (by decide) E4.out.own (by simp only [List.length_append, dg_len]; omega) (Nat.le_trans hbase E4.out.grown.size)).mono ?_
    rintro e w5 ⟨v5, rfl, X⟩
    have K5 : Blk w5 w.heap.size 11 30 h := X.block E4.out.own K4 (by decide)
    have E5 : Hid (Ext base w v w5 v5 (xs ++ dg (h 1) 6 ++ dg (h 0) 6 ++ dg 33024 2 ++ dg (h 3) 2 ++ dg (h 2) 2)) := E4.out.trans X
    clear X c2 K4 E4
    go_wp2
    go_ret
    exact ⟨v5, rfl, by simpa only [ethL, HT.out, List.append_assoc] using E5.out⟩

set_option maxHeartbeats 1600000 in
/-- appendPorts. -/
theorem apPorts (base : Nat) (h : Nat → Int) (len : Int) (v : Value) (xs : List Int) (w : World) (l0 : 0 ≤ len) (l1 : len < 65536) (hown : Owns base w v xs) (hlen : xs.length ≤ 3000) (hbase : base ≤ w.heap.size) :
    Calls Tryd.prog 51 #[v, hv h, .int .i64 len] w fun e w' => ∃ v', e = .returned v' ∧ Ext base w v w' v' (xs ++ portsL h len) := by
  have K0 := Blk.new w 11 30 h
  have E0 : Hid (Ext base w v (w.alloc (.cells (row 11 h) 30)) v xs) := ext_box _ hown
  clear hown
  by_cases h6 : h 6 = 6
  · have HT : Hid (portsL h len = dg (h 7) 2 ++ (dg (h 8) 2 ++ (dg 0 8 ++ (dg 20496 2 ++ dg 0 6)))) := by show portsL h len = _; simp [portsL, h6]
    have hd : (h 6 == 6) = true := by simp [h6]
    have c6 := K0.cell 6 (by omega)
    clear h6
    go_enter Tryd.func51, Tryd.ntmps51
    have c7 := K0.cell 7 (by omega)
    go_wp2_with fail
    refine (apn base 2 _ (h 7) _ _ _ rfl (by decide) E0.out.own (by omega) (Nat.le_trans hbase E0.out.grown.size)).mono ?_
    rintro e w1 ⟨v1, rfl, X⟩
    have K1 : Blk w1 w.heap.size 11 30 h := X.block E0.out.own K0 (by decide)
    have E1 : Hid (Ext base w v w1 v1 (xs ++ dg (h 7) 2)) := E0.out.trans X
    clear X c7 K0 E0
    have c8 := K1.cell 8 (by omega)
    go_wp2_with fail
    refine (apn base 2 _ (h 8) _ _ _ rfl (by decide) E1.out.own (by simp only [List.length_append, dg_len]; omega) (Nat.le_trans hbase E1.out.grown.size)).mono ?_
    rintro e w2 ⟨v2, rfl, X⟩
    have K2 : Blk w2 w.heap.size 11 30 h := X.block E1.out.own K1 (by decide)
    have E2 : Hid (Ext base w v w2 v2 (xs ++ dg (h 7) 2 ++ dg (h 8) 2)) := E1.out.trans X
    clear X c8 K1 E1
    go_wp2_with fail
    refine (apn base 8 _ 0 _ _ _ rfl (by decide) E2.out.own (by simp only [List.length_append, dg_len]; omega) (Nat.le_trans hbase E2.out.grown.size)).mono ?_
    rintro e w3 ⟨v3, rfl, X⟩
    have K3 : Blk w3 w.heap.size 11 30 h := X.block E2.out.own K2 (by decide)
    have E3 : Hid (Ext base w v w3 v3 (xs ++ dg (h 7) 2 ++ dg (h 8) 2 ++ dg 0 8)) := E2.out.trans X
    clear X K2 E2
    go_wp2_with fail
    refine (apn base 2 _ 20496 _ _ _ rfl (by decide) E3.out.own (by simp only [List.length_append, dg_len]; omega) (Nat.le_trans hbase E3.out.grown.size)).mono ?_
    rintro e w4 ⟨v4, rfl, X⟩
    have K4 : Blk w4 w.heap.size 11 30 h := X.block E3.out.own K3 (by decide)
    have E4 : Hid (Ext base w v w4 v4 (xs ++ dg (h 7) 2 ++ dg (h 8) 2 ++ dg 0 8 ++ dg 20496 2)) := E3.out.trans X
    clear X K3 E3
    go_wp2_with fail
    refine (apn base 6 _ 0 _ _ _ rfl (by decide) E4.out.own (by simp only [List.length_append, dg_len]; omega) (Nat.le_trans hbase E4.out.grown.size)).mono ?_
    rintro e w5 ⟨v5, rfl, X⟩
    have K5 : Blk w5 w.heap.size 11 30 h := X.block E4.out.own K4 (by decide)
    have E5 : Hid (Ext base w v w5 v5 (xs ++ dg (h 7) 2 ++ dg (h 8) 2 ++ dg 0 8 ++ dg 20496 2 ++ dg 0 6)) := E4.out.trans X
    clear X K4 E4
    go_wp2
    go_ret
    exact ⟨v5, rfl, by simpa only [HT.out, List.append_assoc] using E5.out⟩
  · by_cases h17 : h 6 = 17
    · have HT : Hid (portsL h len = dg (h 7) 2 ++ (dg (h 8) 2 ++ (dg len 2 ++ dg 0 2))) := by show portsL h len = _; simp [portsL, h17]
      have hd : (h 6 == 6) = false := by simp [h6]
      have hd' : (h 6 == 17) = true := by simp [h17]
      have c6 := K0.cell 6 (by omega)
      clear h6 h17
      go_enter Tryd.func51, Tryd.ntmps51
      have c7 := K0.cell 7 (by omega)
      go_wp2_with fail
      refine (apn base 2 _ (h 7) _ _ _ rfl (by decide) E0.out.own (by omega) (Nat.le_trans hbase E0.out.grown.size)).mono ?_
      rintro e w1 ⟨v1, rfl, X⟩
      have K1 : Blk w1 w.heap.size 11 30 h := X.block E0.out.own K0 (by decide)
      have E1 : Hid (Ext base w v w1 v1 (xs ++ dg (h 7) 2)) := E0.out.trans X
      clear X c7 K0 E0
      have c8 := K1.cell 8 (by omega)
      go_wp2_with fail
      refine (apn base 2 _ (h 8) _ _ _ rfl (by decide) E1.out.own (by simp only [List.length_append, dg_len]; omega) (Nat.le_trans hbase E1.out.grown.size)).mono ?_
      rintro e w2 ⟨v2, rfl, X⟩
      have K2 : Blk w2 w.heap.size 11 30 h := X.block E1.out.own K1 (by decide)
      have E2 : Hid (Ext base w v w2 v2 (xs ++ dg (h 7) 2 ++ dg (h 8) 2)) := E1.out.trans X
      clear X c8 K1 E1
      go_wp2_with fail
      refine (apn base 2 _ len _ _ _ rfl (by decide) E2.out.own (by simp only [List.length_append, dg_len]; omega) (Nat.le_trans hbase E2.out.grown.size)).mono ?_
      rintro e w3 ⟨v3, rfl, X⟩
      have K3 : Blk w3 w.heap.size 11 30 h := X.block E2.out.own K2 (by decide)
      have E3 : Hid (Ext base w v w3 v3 (xs ++ dg (h 7) 2 ++ dg (h 8) 2 ++ dg len 2)) := E2.out.trans X
      clear X K2 E2
      go_wp2_with fail
      refine (apn base 2 _ 0 _ _ _ rfl (by decide) E3.out.own (by simp only [List.length_append, dg_len]; omega) (Nat.le_trans hbase E3.out.grown.size)).mono ?_
      rintro e w4 ⟨v4, rfl, X⟩
      have K4 : Blk w4 w.heap.size 11 30 h := X.block E3.out.own K3 (by decide)
      have E4 : Hid (Ext base w v w4 v4 (xs ++ dg (h 7) 2 ++ dg (h 8) 2 ++ dg len 2 ++ dg 0 2)) := E3.out.trans X
      clear X K3 E3
      go_wp2
      go_ret
      exact ⟨v4, rfl, by simpa only [HT.out, List.append_assoc] using E4.out⟩
    · have HT : Hid (portsL h len = []) := by show portsL h len = _; simp [portsL, h6, h17]
      have hd : (h 6 == 6) = false := by simp [h6]
      have hd' : (h 6 == 17) = false := by simp [h17]
      have c6 := K0.cell 6 (by omega)
      clear h6 h17
      go_enter Tryd.func51, Tryd.ntmps51
      go_wp2
      go_ret
      exact ⟨v, rfl, by simpa only [HT.out, List.append_nil] using E0.out⟩
end Go.Proofs.YtioohgcaakcgaaaDoor
