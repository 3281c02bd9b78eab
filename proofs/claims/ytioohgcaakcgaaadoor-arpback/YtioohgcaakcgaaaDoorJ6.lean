/-
  Proved here: number, frame, Ask, Read and Answer of the document's package answer what 'frL', 'asL', 'rdV', 'anE', 'anL' say, for every packet and numbers; no old memory turns. Conditions: the numbers are unsigned, of 64 or 32 bits.
-/
import Derived.Test.YtioohgcaakcgaaaDoorJ5
import Derived.Test.YtioohgcaakcgaaaDoorH2
namespace Go.Proofs.YtioohgcaakcgaaaDoor
open Go.RowKit

theorem pn (base k : Nat) (K n : Int) (v : Value) (xs : List Int) (w : World) (hK : K = k) (hk : k ≤ 8) (hown : Owns base w v xs) (hlen : xs.length ≤ 4096) (hbase : base ≤ w.heap.size) :
    Calls Tryd.prog 24 #[v, .int .u64 n, .int .i64 K] w fun e w' => ∃ v', e = .returned v' ∧ Ext base w v w' v' (xs ++ dg n k) := by
  subst hK; exact put_any base k n v xs w hk hown hlen hbase
theorem sl_64 (w : World) : Sl (w.heap.size + 1) (w.alloc (.cells #[.int .u8 6, .int .u8 4] 5)) (.slice (some ⟨w.heap.size, 0, none⟩) 2 2) [6, 4] := sl_lit w [6, 4] (isB_of (by decide)) (by decide)

set_option maxHeartbeats 1600000 in
/-- WHAT THE DOCUMENT's frame ANSWERS. -/
theorem rframe_any (d s op f tg t : Int) (w : World) :
    Calls Tryd.prog 18 #[.int .u64 d, .int .u64 s, .int .u64 op, .int .u64 f, .int .u64 tg, .int .u64 t] w fun e w' => ∃ v', e = .returned v' ∧ Below w.heap.size w w' ∧ Owns w.heap.size w' v' (frL d s op f tg t) := by
  have E0 : Hid (Ext w.heap.size w nilS w nilS []) := Ext.refl Owns.isNil
  go_enter Tryd.func18, Tryd.ntmps18
  go_wp2_with fail
  go_fit (pn w.heap.size 6 _ d _ _ _ rfl (by decide) E0.out.own (by simp) E0.out.grown.size)
  rintro e w1 ⟨v1, rfl, X⟩
  have E1 : Hid (Ext w.heap.size w nilS w1 v1 ([] ++ dg d 6)) := E0.out.trans X
  clear X E0
  go_wp2_with fail
  go_fit (pn w.heap.size 6 _ s _ _ _ rfl (by decide) E1.out.own (by simp [dg_len]) E1.out.grown.size)
  rintro e w2 ⟨v2, rfl, X⟩
  have E2 : Hid (Ext w.heap.size w nilS w2 v2 ([] ++ dg d 6 ++ dg s 6)) := E1.out.trans X
  clear X E1
  go_wp2_with fail
  go_fit (pn w.heap.size 2 _ 2054 _ _ _ rfl (by decide) E2.out.own (by simp [dg_len]) E2.out.grown.size)
  rintro e w3 ⟨v3, rfl, X⟩
  have E3 : Hid (Ext w.heap.size w nilS w3 v3 ([] ++ dg d 6 ++ dg s 6 ++ dg 2054 2)) := E2.out.trans X
  clear X E2
  go_wp2_with fail
  go_fit (pn w.heap.size 2 _ 1 _ _ _ rfl (by decide) E3.out.own (by simp [dg_len]) E3.out.grown.size)
  rintro e w4 ⟨v4, rfl, X⟩
  have E4 : Hid (Ext w.heap.size w nilS w4 v4 ([] ++ dg d 6 ++ dg s 6 ++ dg 2054 2 ++ dg 1 2)) := E3.out.trans X
  clear X E3
  go_wp2_with fail
  go_fit (pn w.heap.size 2 _ 2048 _ _ _ rfl (by decide) E4.out.own (by simp [dg_len]) E4.out.grown.size)
  rintro e w5 ⟨v5, rfl, X⟩
  have E5 : Hid (Ext w.heap.size w nilS w5 v5 ([] ++ dg d 6 ++ dg s 6 ++ dg 2054 2 ++ dg 1 2 ++ dg 2048 2)) := E4.out.trans X
  clear X E4
  go_wp2_with (at_builtin; refine app22 (.tmp 22) (.tmp 23) rfl rfl rfl rfl (E5.out.own.alloc _) (sl_64 w5) (Nat.le_trans E5.out.grown.size (by simp)) (by simp [dg_len]) ?_; intro v6 w6 X)
  have E6 : Hid (Ext w.heap.size w nilS w6 v6 ([] ++ dg d 6 ++ dg s 6 ++ dg 2054 2 ++ dg 1 2 ++ dg 2048 2 ++ [6, 4])) := E5.out.trans (X.allocFirst E5.out.own)
  clear X E5
  go_fit (pn w.heap.size 2 _ op _ _ _ rfl (by decide) E6.out.own (by simp [dg_len]) E6.out.grown.size)
  rintro e w7 ⟨v7, rfl, X⟩
  have E7 : Hid (Ext w.heap.size w nilS w7 v7 ([] ++ dg d 6 ++ dg s 6 ++ dg 2054 2 ++ dg 1 2 ++ dg 2048 2 ++ [6, 4] ++ dg op 2)) := E6.out.trans X
  clear X E6
  go_wp2_with fail
  go_fit (pn w.heap.size 6 _ s _ _ _ rfl (by decide) E7.out.own (by simp [dg_len]) E7.out.grown.size)
  rintro e w8 ⟨v8, rfl, X⟩
  have E8 : Hid (Ext w.heap.size w nilS w8 v8 ([] ++ dg d 6 ++ dg s 6 ++ dg 2054 2 ++ dg 1 2 ++ dg 2048 2 ++ [6, 4] ++ dg op 2 ++ dg s 6)) := E7.out.trans X
  clear X E7
  go_wp2_with fail
  go_fit (pn w.heap.size 4 _ f _ _ _ rfl (by decide) E8.out.own (by simp [dg_len]) E8.out.grown.size)
  rintro e w9 ⟨v9, rfl, X⟩
  have E9 : Hid (Ext w.heap.size w nilS w9 v9 ([] ++ dg d 6 ++ dg s 6 ++ dg 2054 2 ++ dg 1 2 ++ dg 2048 2 ++ [6, 4] ++ dg op 2 ++ dg s 6 ++ dg f 4)) := E8.out.trans X
  clear X E8
  go_wp2_with fail
  go_fit (pn w.heap.size 6 _ tg _ _ _ rfl (by decide) E9.out.own (by simp [dg_len]) E9.out.grown.size)
  rintro e w10 ⟨v10, rfl, X⟩
  have E10 : Hid (Ext w.heap.size w nilS w10 v10 ([] ++ dg d 6 ++ dg s 6 ++ dg 2054 2 ++ dg 1 2 ++ dg 2048 2 ++ [6, 4] ++ dg op 2 ++ dg s 6 ++ dg f 4 ++ dg tg 6)) := E9.out.trans X
  clear X E9
  go_wp2_with fail
  go_fit (pn w.heap.size 4 _ t _ _ _ rfl (by decide) E10.out.own (by simp [dg_len]) E10.out.grown.size)
  rintro e w11 ⟨v11, rfl, X⟩
  have E11 : Hid (Ext w.heap.size w nilS w11 v11 ([] ++ dg d 6 ++ dg s 6 ++ dg 2054 2 ++ dg 1 2 ++ dg 2048 2 ++ [6, 4] ++ dg op 2 ++ dg s 6 ++ dg f 4 ++ dg tg 6 ++ dg t 4)) := E10.out.trans X
  clear X E10
  go_wp2
  go_ret
  refine ⟨v11, rfl, E11.out.belowNil, ?_⟩
  simpa only [frL, List.append_assoc, List.nil_append] using E11.out.own

set_option maxHeartbeats 400000 in
/-- WHAT THE DOCUMENT's Ask ANSWERS. -/
theorem rask_any (mac f t : Int) (w : World) (m0 : 0 ≤ mac) (m1 : mac < 18446744073709551616) (f0 : 0 ≤ f) (f1 : f < 4294967296) (t0 : 0 ≤ t) (t1 : t < 4294967296) :
    Calls Tryd.prog 10 #[.int .u64 mac, .int .u32 f, .int .u32 t] w fun e w' => ∃ v', e = .returned v' ∧ Below w.heap.size w w' ∧ Owns w.heap.size w' v' (asL mac f t) := by
  by_cases hm : mac < 281474976710656
  · have hd : (mac / 281474976710656 != 0) = false := by simp; omega
    have HE : Hid (asL mac f t = frL 281474976710655 mac 1 f 0 t) := asL_fit hm
    clear hm
    go_enter Tryd.func10, Tryd.ntmps10
    go_wp2_with fail
    go_fit (rframe_any 281474976710655 mac 1 f 0 t w)
    rintro e w1 ⟨v1, rfl, hb1, hO1⟩
    go_wp2
    go_ret
    exact ⟨v1, rfl, hb1, by rw [HE.out]; exact hO1⟩
  · have hd : (mac / 281474976710656 != 0) = true := by simp; omega
    have HE : Hid (asL mac f t = []) := if_neg hm
    clear hm
    go_enter Tryd.func10, Tryd.ntmps10
    go_wp2
    go_ret
    exact ⟨nilS, rfl, Below.refl _ _, by rw [HE.out]; exact Owns.isNil⟩
end Go.Proofs.YtioohgcaakcgaaaDoor
