/-
  Proved here: the document's ports and head append what 'portsL' and 'headL' with the sum say. Conditions: lengths below 65536, not negative.
-/
import Derived.Test.YtgjglbailgeneaaDoorE1
import Derived.Test.YtgjglbailgeneaaDoorL2
namespace Go.Proofs.YtgjglbailgeneaaDoor
open Go.RowKit

theorem put (base k : Nat) (K n : Int) (v : Value) (xs : List Int) (w : World) (hK : K = k) (hk : k ≤ 8) (hown : Owns base w v xs) (hlen : xs.length ≤ 4096) (hbase : base ≤ w.heap.size) :
    Calls Tryd.prog 26 #[v, .int .u64 n, .int .i64 K] w fun e w' => ∃ v', e = .returned v' ∧ Ext base w v w' v' (xs ++ dg n k) := by
  subst hK; exact put_any base k n v xs w hk hown hlen hbase
/-- A slice of bytes written out, as a source of an append. -/
theorem Ext.lit {base : Nat} {w wr w' : World} {v u v' : Value} {xs zs : List Int} {o : Obj} (hE : Ext base w v wr u xs) (h : Ext base (wr.alloc o) u w' v' (xs ++ zs)) : Ext base w v w' v' (xs ++ zs) := hE.trans (h.allocFirst hE.own)
theorem Ext.blkL {base : Nat} {wr w' : World} {u v' : Value} {xs zs : List Int} {o : Obj} {b : Nat} {f : Nat → Int} (hO : Owns base wr u xs) (h : Ext base (wr.alloc o) u w' v' (xs ++ zs)) (hb : Blk wr b 11 25 f) : Blk w' b 11 25 f :=
  h.block (hO.alloc o) (hb.alloc o) (by decide)
theorem dg_a : dg 20496 2 = [80, 16] := by decide
theorem dg_b : dg 17664 2 = [69, 0] := by decide
theorem dg_z4 : dg 0 4 = [0, 0, 0, 0] := by decide
theorem dg_64 : dg 64 1 = [64] := by decide
theorem dg_1 (n : Int) : dg n 1 = [n % 256] := by simp [dg]
theorem dg_z2 : dg 0 2 = [0, 0] := by decide

set_option maxHeartbeats 1600000 in
/-- The document's ports. -/
theorem rports (base : Nat) (h : Nat → Int) (n : Int) (w : World) (n0 : 0 ≤ n) (n1 : n < 65000) (hbase : base ≤ w.heap.size) :
    Calls Tryd.prog 20 #[hv h, .int .i64 n] w fun e w' => ∃ v', e = .returned v' ∧ Ext base w nilS w' v' (portsL h (8 + n)) := by
  have K0 := Blk.new w 11 25 h
  have E0 : Hid (Ext base w nilS (w.alloc (.cells (row 11 h) 25)) nilS []) := ext_box _ Owns.isNil
  by_cases h6 : h 6 = 6
  · have HT : Hid (portsL h (8 + n) = dg (h 7) 2 ++ (dg (h 8) 2 ++ (dg 0 8 ++ ([80, 16] ++ dg 0 6)))) := by show portsL h (8 + n) = _; rw [← dg_a]; simp [portsL, h6]
    have hd : (h 6 == 6) = true := by simp [h6]
    have c6 := K0.cell 6 (by omega)
    clear h6
    go_enter Tryd.func20, Tryd.ntmps20
    have c7 := K0.cell 7 (by omega)
    go_wp2_with fail
    go_fit (put base 2 _ (h 7) _ _ _ rfl (by decide) E0.out.own (by decide) (Nat.le_trans hbase E0.out.grown.size))
    rintro e w1 ⟨v1, rfl, X⟩
    have K1 : Blk w1 w.heap.size 11 25 h := X.block E0.out.own K0 (by decide)
    have E1 : Hid (Ext base w nilS w1 v1 ([] ++ dg (h 7) 2)) := E0.out.trans X
    clear X c7 K0 E0
    have c8 := K1.cell 8 (by omega)
    go_wp2_with fail
    go_fit (put base 2 _ (h 8) _ _ _ rfl (by decide) E1.out.own (by simp only [List.length_append, List.length_nil, dg_len]; omega) (Nat.le_trans hbase E1.out.grown.size))
    rintro e w2 ⟨v2, rfl, X⟩
    have K2 : Blk w2 w.heap.size 11 25 h := X.block E1.out.own K1 (by decide)
    have E2 : Hid (Ext base w nilS w2 v2 ([] ++ dg (h 7) 2 ++ dg (h 8) 2)) := E1.out.trans X
    clear X c8 K1 E1
    go_wp2_with fail
    go_fit (put base 8 _ 0 _ _ _ rfl (by decide) E2.out.own (by simp only [List.length_append, List.length_nil, dg_len]; omega) (Nat.le_trans hbase E2.out.grown.size))
    rintro e w3 ⟨v3, rfl, X⟩
    have K3 : Blk w3 w.heap.size 11 25 h := X.block E2.out.own K2 (by decide)
    have E3 : Hid (Ext base w nilS w3 v3 ([] ++ dg (h 7) 2 ++ dg (h 8) 2 ++ dg 0 8)) := E2.out.trans X
    clear X K2 E2
    have Q : Hid (Sl (w3.heap.size + 1) (w3.alloc (.cells (([80, 16] : List Int).map (Value.int .u8)).toArray 5)) (.slice (some ⟨w3.heap.size, 0, none⟩) ([80, 16] : List Int).length ([80, 16] : List Int).length) [80, 16]) := sl_lit w3 [80, 16] (isB_of (by decide)) (by simp)
    go_wp2_with (at_builtin; refine app22 (.tmp 20) (.tmp 21) rfl rfl rfl rfl (E3.out.own.alloc _) Q.out (by have := Nat.le_trans hbase E3.out.grown.size; simp; omega) (by simp only [List.length_append, List.length_cons, List.length_nil, dg_len]; omega) ?_; intro v4 w4 X)
    have K4 : Blk w4 w.heap.size 11 25 h := X.blkL E3.out.own K3
    have E4 : Hid (Ext base w nilS w4 v4 ([] ++ dg (h 7) 2 ++ dg (h 8) 2 ++ dg 0 8 ++ [80, 16])) := E3.out.lit X
    clear X Q K3 E3
    go_wp2_with fail
    go_fit (put base 6 _ 0 _ _ _ rfl (by decide) E4.out.own (by simp only [List.length_append, List.length_cons, List.length_nil, dg_len]; omega) (Nat.le_trans hbase E4.out.grown.size))
    rintro e w5 ⟨v5, rfl, X⟩
    have K5 : Blk w5 w.heap.size 11 25 h := X.block E4.out.own K4 (by decide)
    have E5 : Hid (Ext base w nilS w5 v5 ([] ++ dg (h 7) 2 ++ dg (h 8) 2 ++ dg 0 8 ++ [80, 16] ++ dg 0 6)) := E4.out.trans X
    clear X K4 E4
    go_wp2
    go_ret
    exact ⟨v5, rfl, by simpa only [HT.out, List.nil_append, List.append_assoc] using E5.out⟩
  · by_cases h17 : h 6 = 17
    · have HT : Hid (portsL h (8 + n) = dg (h 7) 2 ++ (dg (h 8) 2 ++ (dg (8 + n) 2 ++ dg 0 2))) := by show portsL h (8 + n) = _; simp [portsL, h17]
      have hd : (h 6 == 6) = false := by simp [h6]
      have hd' : (h 6 == 17) = true := by simp [h17]
      have c6 := K0.cell 6 (by omega)
      clear h6 h17
      go_enter Tryd.func20, Tryd.ntmps20
      have c7 := K0.cell 7 (by omega)
      go_wp2_with fail
      go_fit (put base 2 _ (h 7) _ _ _ rfl (by decide) E0.out.own (by decide) (Nat.le_trans hbase E0.out.grown.size))
      rintro e w1 ⟨v1, rfl, X⟩
      have K1 : Blk w1 w.heap.size 11 25 h := X.block E0.out.own K0 (by decide)
      have E1 : Hid (Ext base w nilS w1 v1 ([] ++ dg (h 7) 2)) := E0.out.trans X
      clear X c7 K0 E0
      have c8 := K1.cell 8 (by omega)
      go_wp2_with fail
      go_fit (put base 2 _ (h 8) _ _ _ rfl (by decide) E1.out.own (by simp only [List.length_append, List.length_nil, dg_len]; omega) (Nat.le_trans hbase E1.out.grown.size))
      rintro e w2 ⟨v2, rfl, X⟩
      have K2 : Blk w2 w.heap.size 11 25 h := X.block E1.out.own K1 (by decide)
      have E2 : Hid (Ext base w nilS w2 v2 ([] ++ dg (h 7) 2 ++ dg (h 8) 2)) := E1.out.trans X
      clear X c8 K1 E1
      go_wp2_with fail
      go_fit (put base 2 _ (8 + n) _ _ _ rfl (by decide) E2.out.own (by simp only [List.length_append, List.length_nil, dg_len]; omega) (Nat.le_trans hbase E2.out.grown.size))
      rintro e w3 ⟨v3, rfl, X⟩
      have K3 : Blk w3 w.heap.size 11 25 h := X.block E2.out.own K2 (by decide)
      have E3 : Hid (Ext base w nilS w3 v3 ([] ++ dg (h 7) 2 ++ dg (h 8) 2 ++ dg (8 + n) 2)) := E2.out.trans X
      clear X K2 E2
      go_wp2_with fail
      go_fit (put base 2 _ 0 _ _ _ rfl (by decide) E3.out.own (by simp only [List.length_append, List.length_nil, dg_len]; omega) (Nat.le_trans hbase E3.out.grown.size))
      rintro e w4 ⟨v4, rfl, X⟩
      have K4 : Blk w4 w.heap.size 11 25 h := X.block E3.out.own K3 (by decide)
      have E4 : Hid (Ext base w nilS w4 v4 ([] ++ dg (h 7) 2 ++ dg (h 8) 2 ++ dg (8 + n) 2 ++ dg 0 2)) := E3.out.trans X
      clear X K3 E3
      go_wp2
      go_ret
      exact ⟨v4, rfl, by simpa only [HT.out, List.nil_append, List.append_assoc] using E4.out⟩
    · have HT : Hid (portsL h (8 + n) = []) := by show portsL h (8 + n) = _; simp [portsL, h6, h17]
      have hd : (h 6 == 6) = false := by simp [h6]
      have hd' : (h 6 == 17) = false := by simp [h17]
      have c6 := K0.cell 6 (by omega)
      clear h6 h17
      go_enter Tryd.func20, Tryd.ntmps20
      go_wp2
      go_ret
      exact ⟨nilS, rfl, by simpa only [HT.out] using E0.out⟩

theorem grown_trans0 {a b d : World} (h : a.grownBy b none) (k : b.grownBy d none) {row : Option Nat} : a.grownBy d row :=
  ⟨k.os.trans h.os, k.tape.trans h.tape, k.output.trans h.output, Nat.le_trans h.size k.size, fun i hi _ => (k.block i (Nat.lt_of_lt_of_le hi h.size) (by simp)).trans (h.block i hi (by simp))⟩
theorem owned_some {base : Nat} {w : World} {v : Value} {xs : List Int} (h : Owns base w v xs) (hp : 0 < xs.length) : ∃ g cap, v = .slice (some ⟨g, 0, none⟩) xs.length cap ∧ base ≤ g ∧ xs.length ≤ cap := by
  rcases h.2 with ⟨_, h0⟩ | ⟨g, cap, cur, rfl, h1, h2, h3, _⟩
  · omega
  · exact ⟨g, cap, rfl, h1, h3⟩
theorem own_cell {base g n cap j : Nat} {w : World} {xs : List Int} (h : w.ownsRow base 5 1 (.slice (some ⟨g, 0, none⟩) n cap) xs.length (xs.map (Value.int .u8))) (hj : j < xs.length) : ∃ u, w.cell? ⟨g, j, none⟩ = some u := by
  have hn : n = xs.length := by
    rcases h.2 with ⟨h', _⟩ | ⟨g', cap', cur, h', _⟩
    · cases h'
    · simp only [Value.slice.injEq] at h'; exact h'.2.1
  subst hn
  rw [h.cellAt j (by omega), List.getElem?_map, List.getElem?_eq_getElem hj]
  exact ⟨_, rfl⟩
theorem own_free {base g n cap : Nat} {w : World} {xs : List Int} (h : w.ownsRow base 5 1 (.slice (some ⟨g, 0, none⟩) n cap) xs.length (xs.map (Value.int .u8))) (j : Nat) : w.frozen? ⟨g, j, none⟩ = false := by
  have hn : n = xs.length := by
    rcases h.2 with ⟨h', _⟩ | ⟨g', cap', cur, h', _⟩
    · cases h'
    · simp only [Value.slice.injEq] at h'; exact h'.2.1
  subst hn
  exact h.frozenAt j
theorem owns_lit (w : World) (bs : List Int) (base : Nat) (hb : base ≤ w.heap.size) (hl : bs.length ≤ 1000) : Owns base (w.alloc (.cells (bs.map (Value.int .u8)).toArray 5)) (.slice (some ⟨w.heap.size, 0, none⟩) bs.length bs.length) bs :=
  ⟨by simp, Or.inr ⟨w.heap.size, bs.length, _, rfl, hb, heap_alloc_new _ _, Nat.le_refl _, by unfold maxLen; omega, by simp, by simp only [Nat.mul_one]; exact List.take_of_length_le (by simp)⟩⟩
theorem Ext.store {base g cap j : Nat} {w w1 : World} {v : Value} {xs : List Int} (h : Ext base w v w1 (.slice (some ⟨g, 0, none⟩) xs.length cap) xs) (x : Int) : Ext base w v (w1.setCell ⟨g, j, none⟩ (.int .u8 x)) (.slice (some ⟨g, 0, none⟩) xs.length cap) (xs.set j x) := by
  refine h.trans ⟨?_, (h.own.stored j (.int .u8 x)).2, fun _ hk _ => hk⟩
  have q := (h.own.stored j (.int .u8 x)).1
  unfold Owns
  rw [List.map_set, List.length_set]; exact q
theorem headL_set (h : Nat → Int) (len s : Int) (h0 : 0 ≤ s) (h1 : s ≤ 65535) : ((headL h len 0).set 10 (s / 256)).set 11 (s % 256) = headL h len s := by
  have e : ∀ s, headL h len s = (dg 17664 2 ++ (dg len 2 ++ (dg 0 4 ++ (dg 64 1 ++ dg (h 6) 1)))) ++ (dg s 2 ++ (dg (h 4) 4 ++ dg (h 5) 4)) := fun s => by
    simp only [headL, List.append_assoc]
  have hA : (dg 17664 2 ++ (dg len 2 ++ (dg 0 4 ++ (dg 64 1 ++ dg (h 6) 1)))).length = 10 := by simp only [List.length_append, dg_len]
  rw [e 0, e s, List.set_append_right _ _ (by omega), List.set_append_right _ _ (by omega), hA]
  have hd : dg s 2 = [s / 256, s % 256] := by
    simp [dg]; omega
  rw [hd, dg_z2]
  rfl
set_option maxHeartbeats 1600000 in
/-- The document's head. -/
theorem rhead (base : Nat) (h : Nat → Int) (n : Int) (w : World) (n0 : 0 ≤ n) (n1 : n < 65000) (hbase : base ≤ w.heap.size) :
    Calls Tryd.prog 27 #[hv h, .int .i64 n] w fun e w' => ∃ v', e = .returned v' ∧ Ext base w nilS w' v' (headL h (20 + n) (hsum h (20 + n))) := by
  have KA := Blk.new w 11 25 h
  obtain ⟨w0, hw0⟩ : ∃ w0, w0 = (w.alloc (.cells (row 11 h) 25)).alloc (.cells (([69, 0] : List Int).map (Value.int .u8)).toArray 5) := ⟨_, rfl⟩
  have K0 : Blk w0 w.heap.size 11 25 h := by rw [hw0]; exact KA.alloc _
  have E0 : Hid (Ext base w nilS w0 (.slice (some ⟨w.heap.size + 1, 0, none⟩) 2 2) [69, 0]) := by
    rw [hw0]
    have q := owns_lit (w.alloc (.cells (row 11 h) 25)) [69, 0] base (by simp; omega) (by decide)
    have hsz : (w.alloc (.cells (row 11 h) 25)).heap.size = w.heap.size + 1 := by simp
    rw [hsz] at q
    refine ⟨q, grown_trans0 (World.grownBy_alloc w _ none) (World.grownBy_alloc _ _ none), fun k hk hlt => ?_⟩
    simp [Value.ownBlock] at hk
    omega
  have HW0 : Hid (w0 = (w.alloc (.cells (row 11 h) 25)).alloc (.cells (([69, 0] : List Int).map (Value.int .u8)).toArray 5)) := hw0
  clear hw0 KA
  go_enter Tryd.func27, Tryd.ntmps27
  go_wp2_with fail
  rw [← show w0 = (w.alloc (.cells (row 11 h) 25)).alloc (.cells #[.int .u8 69, .int .u8 0] 5) from HW0.out]
  clear HW0
  go_fit (put base 2 _ (20 + n) _ _ _ rfl (by decide) E0.out.own (by decide) (Nat.le_trans hbase E0.out.grown.size))
  rintro e w1 ⟨v1, rfl, X⟩
  have K1 : Blk w1 w.heap.size 11 25 h := X.block E0.out.own K0 (by decide)
  have E1 : Hid (Ext base w nilS w1 v1 ([69, 0] ++ dg (20 + n) 2)) := E0.out.trans X
  clear X K0 E0
  have c6 := K1.cell 6 (by omega)
  have Q : Hid (Sl (w1.heap.size + 1) (w1.alloc (.cells (([0, 0, 0, 0, 64, h 6 % 256, 0, 0] : List Int).map (Value.int .u8)).toArray 5)) (.slice (some ⟨w1.heap.size, 0, none⟩) ([0, 0, 0, 0, 64, h 6 % 256, 0, 0] : List Int).length ([0, 0, 0, 0, 64, h 6 % 256, 0, 0] : List Int).length) [0, 0, 0, 0, 64, h 6 % 256, 0, 0]) := sl_lit w1 [0, 0, 0, 0, 64, h 6 % 256, 0, 0] (IsB.cons (by omega) (by omega) (IsB.cons (by omega) (by omega) (IsB.cons (by omega) (by omega) (IsB.cons (by omega) (by omega) (IsB.cons (by omega) (by omega) (IsB.cons (by omega) (by omega) (IsB.cons (by omega) (by omega) (IsB.cons (by omega) (by omega) IsB.nil)))))))) (by simp)
  go_wp2_with (at_builtin; refine app22 (.tmp 13) (.tmp 17) rfl rfl rfl rfl (E1.out.own.alloc _) Q.out (by have := Nat.le_trans hbase E1.out.grown.size; simp; omega) (by simp only [List.length_append, List.length_cons, List.length_nil, dg_len]; omega) ?_; intro v2 w2 X; have d4 := (X.blkL E1.out.own K1).cell 4 (by omega))
  have K2 : Blk w2 w.heap.size 11 25 h := X.blkL E1.out.own K1
  have E2 : Hid (Ext base w nilS w2 v2 ([69, 0] ++ dg (20 + n) 2 ++ [0, 0, 0, 0, 64, h 6 % 256, 0, 0])) := E1.out.lit X
  clear X Q c6 d4 K1 E1
  have c4 := K2.cell 4 (by omega)
  go_wp2_with fail
  go_fit (put base 4 _ (h 4) _ _ _ rfl (by decide) E2.out.own (by simp only [List.length_append, List.length_cons, List.length_nil, dg_len]; omega) (Nat.le_trans hbase E2.out.grown.size))
  rintro e w3 ⟨v3, rfl, X⟩
  have K3 : Blk w3 w.heap.size 11 25 h := X.block E2.out.own K2 (by decide)
  have E3 : Hid (Ext base w nilS w3 v3 ([69, 0] ++ dg (20 + n) 2 ++ [0, 0, 0, 0, 64, h 6 % 256, 0, 0] ++ dg (h 4) 4)) := E2.out.trans X
  clear X c4 K2 E2
  have c5 := K3.cell 5 (by omega)
  go_wp2_with fail
  go_fit (put base 4 _ (h 5) _ _ _ rfl (by decide) E3.out.own (by simp only [List.length_append, List.length_cons, List.length_nil, dg_len]; omega) (Nat.le_trans hbase E3.out.grown.size))
  rintro e w4 ⟨v4, rfl, X⟩
  have K4 : Blk w4 w.heap.size 11 25 h := X.block E3.out.own K3 (by decide)
  have E4 : Hid (Ext base w nilS w4 v4 ([69, 0] ++ dg (20 + n) 2 ++ [0, 0, 0, 0, 64, h 6 % 256, 0, 0] ++ dg (h 4) 4 ++ dg (h 5) 4)) := E3.out.trans X
  clear X c5 K3 E3
  have HL : [69, 0] ++ dg (20 + n) 2 ++ [0, 0, 0, 0, 64, h 6 % 256, 0, 0] ++ dg (h 4) 4 ++ dg (h 5) 4 = headL h (20 + n) 0 := by
    unfold headL
    rw [dg_b, dg_z4, dg_64, dg_1, dg_z2]
    simp only [List.append_assoc, List.cons_append, List.nil_append]
  have E4' : Hid (Ext base w nilS w4 v4 (headL h (20 + n) 0)) := by
    have q := E4.out
    rw [HL] at q
    exact q
  have hS4 := Sl.own E4'.out.own (by rw [headL_len]; omega) (headL_isB _ _ _)
  obtain ⟨s, hs⟩ : ∃ s, s = hsum h (20 + n) := ⟨_, rfl⟩
  have hsb : 0 ≤ hsum h (20 + n) ∧ hsum h (20 + n) ≤ 65535 := sumL_bd (headL_isB _ _ _)
  have HSum : Hid (Calls Tryd.prog 12 #[v4] w4 fun e w' => e = .returned (.int .u16 s) ∧ w' = w4) := by rw [hs]; exact rsum_any _ v4 _ w4 hS4
  rw [← hs] at hsb
  have hset := headL_set h (20 + n) s hsb.1 hsb.2
  have HS : Hid (s = hsum h (20 + n)) := hs
  clear E4 HL hS4 hs K4
  go_wp2_with fail
  go_fit HSum.out
  rintro e w5 ⟨rfl, hw5⟩
  subst w5
  obtain ⟨g, cap, rfl, hg, hcap⟩ := owned_some E4'.out.own (by rw [headL_len]; omega)
  have E5 : Hid (Ext base w nilS (w4.setCell ⟨g, 10, none⟩ (.int .u8 (s / 256))) (.slice (some ⟨g, 0, none⟩) (headL h (20 + n) 0).length cap) ((headL h (20 + n) 0).set 10 (s / 256))) := E4'.out.store _
  have E6 : Hid (Ext base w nilS ((w4.setCell ⟨g, 10, none⟩ (.int .u8 (s / 256))).setCell ⟨g, 11, none⟩ (.int .u8 (s % 256))) (.slice (some ⟨g, 0, none⟩) (headL h (20 + n) 0).length cap) (headL h (20 + n) s)) := by
    have q0 := E5.out
    have hls : ((headL h (20 + n) 0).set 10 (s / 256)).length = (headL h (20 + n) 0).length := List.length_set
    rw [← hls] at q0
    have q := q0.store (j := 11) (s % 256)
    rw [List.length_set, hset] at q
    exact q
  have hlen := headL_len h (20 + n) 0
  rw [headL_len] at E5 E6 E4'
  have c10 : ∃ u, w4.cell? ⟨g, 10, none⟩ = some u := own_cell E4'.out.own (by omega)
  have c11 : ∃ u, (w4.setCell ⟨g, 10, none⟩ (.int .u8 (s / 256))).cell? ⟨g, 11, none⟩ = some u := own_cell E5.out.own (by rw [List.length_set]; omega)
  obtain ⟨u10, c10⟩ := c10
  obtain ⟨u11, c11⟩ := c11
  have f10 := own_free E4'.out.own 10
  have f11 := own_free E5.out.own 11
  rw [hlen] at hcap ⊢
  clear HSum hset hlen hg E4' E5
  go_wp2
  go_ret
  exact ⟨_, rfl, by rw [← HS.out]; exact E6.out⟩
end Go.Proofs.YtgjglbailgeneaaDoor
