/-
  Proved here: sixPairs' closure of package scan finds six pairs, and their number; no old memory turns. Conditions: the text lies in its variable; the place is within it.
-/
import Derived.Test.YtbbankcmeanjaaaGreatDoorQ2
import Derived.Lib.ConvBytes
import Derived.Laws.BitsAllLaws
namespace Go.Proofs.YtbbankcmeanjaaaGreatDoor
set_option maxRecDepth 100000
open Go.RowKit
set_option maxRecDepth 100000

theorem shl4 (n : Nat) : IntKind.u64.wrap ((n : Int) * 16) = ((n * 16 % 18446744073709551616 : Nat) : Int) := by rw [IntKind.wrap_u64]; omega
theorem or_low {a b i : Nat} (ha : a % 2 ^ i = 0) (hb : b < 2 ^ i) : a ||| b = a + b := by
  have h := Nat.shiftLeft_add_eq_or_of_lt hb (a / 2 ^ i)
  rw [Nat.shiftLeft_eq] at h
  have e : a / 2 ^ i * 2 ^ i = a := by have := Nat.div_add_mod a (2 ^ i); rw [ha, Nat.add_zero, Nat.mul_comm] at this; exact this
  rw [e] at h; exact h.symm
theorem orHx (n v : Nat) (hv : v < 16) : bits .or .u64 ((n * 16 % 18446744073709551616 : Nat) : Int) (v : Int) = ((hx n v : Nat) : Int) := by
  rw [u64_or_nat _ _ (by omega) (by omega), or_low (i := 4) (by omega) (by omega)]; rfl
theorem ext_bt {s : ByteArray} {a e j : Nat} (he : e ≤ s.size) (hj : j < e - a) : ((s.extract a e).data.toList.getD j 0).toNat = bt s (a + j) := by
  have hl : a + j < s.size := by omega
  rw [bt_in hl]
  have h1 : (s.extract a e).data.toList = (s.data.toList.drop a).take (e - a) := by
    rw [ByteArray.data_extract, Array.toList_extract]
  rw [h1, List.getD_eq_getElem?_getD, List.getElem?_take, if_pos hj, List.getElem?_drop]
  have h2 : s.data.toList[a + j]? = some (s[a + j]'hl) := by
    have : s.data[a + j]? = some (s[a + j]'hl) := by
      have hd : a + j < s.data.size := hl
      rw [Array.getElem?_eq_getElem hd]; rfl
    simpa using this
  rw [h2]; rfl
def k6 (s : ByteArray) (a : Nat) : Option Fd := (pr s a).map fun n => ⟨2, a + 17, n, 0⟩
theorem prF_colon {s : ByteArray} {a i n : Nat} (hi : i < 17) (hm : i % 3 = 2) (h : bt s (a + i) = 58) : prF s a (17 - i) i n = prF s a (17 - (i + 1)) (i + 1) n := by
  rw [show 17 - i = (17 - (i + 1)) + 1 by omega, prF, if_pos hm, if_pos h]
theorem prF_nocolon {s : ByteArray} {a i n : Nat} (hi : i < 17) (hm : i % 3 = 2) (h : bt s (a + i) ≠ 58) : prF s a (17 - i) i n = none := by
  rw [show 17 - i = (17 - (i + 1)) + 1 by omega, prF, if_pos hm, if_neg h]
theorem prF_hex {s : ByteArray} {a i n : Nat} (hi : i < 17) (hm : i % 3 ≠ 2) (h : isH (bt s (a + i)) = true) : prF s a (17 - i) i n = prF s a (17 - (i + 1)) (i + 1) (hx n (hv (bt s (a + i)))) := by
  rw [show 17 - i = (17 - (i + 1)) + 1 by omega, prF, if_neg hm, if_pos h]
theorem prF_nohex {s : ByteArray} {a i n : Nat} (hi : i < 17) (hm : i % 3 ≠ 2) (h : isH (bt s (a + i)) = false) : prF s a (17 - i) i n = none := by
  rw [show 17 - i = (17 - (i + 1)) + 1 by omega, prF, if_neg hm, if_neg (by rw [h]; decide)]
/-- Block g, made in a call, is for what is found: z stands in it; old memory stays. -/
structure Rz (w : World) (g : Nat) (z : Fd) (W : World) : Prop where
  low : Below w.heap.size w W
  ge : w.heap.size ≤ g
  blk : W.heap[g]? = some (.cells (fdc z) 45 (0, 0))
theorem Rz.on {w : World} {g : Nat} {z : Fd} {W W' : World} (h : Rz w g z W) (hb : Below W.heap.size W W') : Rz w g z W' :=
  ⟨h.low.trans (hb.mono h.low.size), h.ge, (hb.block _ (Array.getElem?_eq_some_iff.1 h.blk).1).trans h.blk⟩
theorem Rz.new (w : World) : Rz w w.heap.size ⟨0, 0, 0, 0⟩ (w.alloc (.cells (fdc ⟨0, 0, 0, 0⟩) 45)) := ⟨(Below.refl _ _).alloc (Nat.le_refl _) _, Nat.le_refl _, heap_alloc_new _ _⟩
theorem Rz.set {w : World} {g : Nat} {z : Fd} {W : World} (h : Rz w g z W) (f : Fd) : Rz w g f (W.setRow g (fdc f)) :=
  ⟨below_setRow h.low h.ge _, h.ge, setRow_heap _ _ _ _ _ _ h.blk⟩
theorem below_bytes (w : World) (e : TypeId) (s : ByteArray) : Below w.heap.size w (Lib.bytesWorld w e s) :=
  ⟨rfl, rfl, rfl, by rw [Lib.bytesWorld_size]; omega, fun k hk => Lib.bytesWorld_at_old w e s k hk⟩
set_option maxHeartbeats 1600000 in
theorem six_any (s : ByteArray) (a b : Nat) (w : World) (hb : w.cell? ⟨b, 0, none⟩ = some (.string s)) (ha : a ≤ s.size) (hs : s.size ≤ 65536) :
    Calls Tryz.prog 36 #[.int .i64 a, .pointer (some ⟨b, 0, none⟩)] w fun e w' => e = .returned (kdV (k6 s a)) ∧ Below w.heap.size w w' := by
  have hbl : b < w.heap.size := cell_lt hb
  have g0 : IntKind.i64.wrap ((s.size : Int) - (a : Int)) = (s.size : Int) - (a : Int) := by rw [IntKind.wrap_i64]; omega
  by_cases h17 : s.size < a + 17
  · have hr : k6 s a = none := by
      unfold k6
      cases h : pr s a with
      | none => rfl
      | some n => have := pr_in h; omega
    rw [hr]
    have g1 : decide ((s.size : Int) - (a : Int) < 17) = true := by simp; omega
    clear hr
    go_enter Tryz.func36, Tryz.ntmps36
    go_wp2
    try simp only [Exit.inBlock, Exit.then]
    exact bodyPost_ret (v := kdV none) (results_ct Tryz.results36 _ _ w.heap.size ⟨0, 0, 0, 0⟩ rfl (heap_alloc_new _ _)) rfl ⟨rfl, (Below.refl _ _).alloc (Nat.le_refl _) _⟩
  · have g1 : decide ((s.size : Int) - (a : Int) < 17) = false := by simp; omega
    have g2 : IntKind.i64.wrap ((a : Int) + 17) = (a : Int) + 17 := by rw [IntKind.wrap_i64]; omega
    have hcb : (w.alloc (.cells (fdc ⟨0, 0, 0, 0⟩) 45)).cell? ⟨b, 0, none⟩ = some (.string s) := by rw [World.cell?_alloc_lt _ _ _ hbl]; exact hb
    have HZ := hid (Rz.new w)
    go_enter Tryz.func36, Tryz.ntmps36
    go_upto_region 3 with fail
    obtain ⟨W0, hW0⟩ : ∃ W0, W0 = w.alloc (.cells (fdc ⟨0, 0, 0, 0⟩) 45) := ⟨_, rfl⟩
    have hE0 : w.alloc (.cells #[.int .i8 0, .int .i64 0, .int .u64 0, .int .i64 0] 45) = W0 := hW0.symm
    rw [← hW0] at HZ hcb
    rw [hE0]
    clear hE0 hW0
    have hcv := Lib.run_convert_string_bytes (P := Tryz.prog) W0 9 80 5 (s.extract a (a + 17)) (u := .string) Tryz.underlying9 Tryz.underlying80 Tryz.underlying5
    have hsz : (s.extract a (a + 17)).size = 17 := by rw [size_ext (by omega)]; omega
    rw [hsz] at hcv
    have hB : ∀ j, j < 17 → (Lib.bytesWorld W0 5 (s.extract a (a + 17))).cell? ⟨W0.heap.size, j, none⟩ = some (.int .u8 ((bt s (a + j) : Nat) : Int)) := fun j hj => by
      rw [Lib.bytesWorld_cell W0 5 _ j (by rw [hsz]; exact hj), ext_bt (by omega) (by omega)]
    have HZ2 := hid (HZ.out.on (below_bytes W0 5 (s.extract a (a + 17))))
    generalize Lib.bytesWorld W0 5 (s.extract a (a + 17)) = W1 at hcv hB HZ2
    have g3 : decide ((a : Int) ≤ (s.size : Int)) = true := by simp; omega
    go_upto_region 5 with fail
    have HB := hid hB
    clear hB hcv hsz g3 HZ hcb hb h17 g1 g0
    go_loop [5, 21] (fun vn vi => ∃ n i : Nat, vn = .int .u64 n ∧ vi = .int .i64 i ∧ i ≤ 17 ∧ Hid (n < 18446744073709551616 ∧ prF s a (17 - i) i n = pr s a)) (fun _ vi => 17 - (intOf vi).toNat)
    case atStart => exact ⟨0, 0, rfl, rfl, by omega, by decide, rfl⟩
    case round =>
      obtain ⟨n, i, rfl, rfl, hi, HR⟩ := hrel
      by_cases hl : i < 17
      · have g1 : decide ((i : Int) < 17) = true := by simp; omega
        have hc := HB.out i hl
        have hw1 : IntKind.i64.wrap ((i : Int) + 1) = (i : Int) + 1 := by rw [IntKind.wrap_i64]; omega
        have HH := hid (fun W => isHexDigit_any (bt s (a + i)) W)
        have HV := hid (fun (h : isH (bt s (a + i)) = true) W => hexValue_any (bt s (a + i)) h W)
        obtain ⟨c, hcc⟩ : ∃ c, c = bt s (a + i) := ⟨_, rfl⟩
        by_cases hm : i % 3 = 2
        · have g2 : (((i : Int) % 3) == 2) = true := by simp; omega
          by_cases hk : c = 58
          · have HN : Hid (prF s a (17 - (i + 1)) (i + 1) n = pr s a) := by rw [← HR.out.2, prF_colon hl hm (by rw [← hcc]; exact hk)]; rfl
            rw [← hcc, hk, show ((58 : Nat) : Int) = 58 from rfl] at hc
            clear HH HV hm hk hcc HZ2
            go_wp2
            go_round
            case rel => exact ⟨n, i + 1, rfl, by go_num, by omega, HR.out.1, HN.out⟩
            case measure => simp [intOf]; omega
          · have HN : Hid (k6 s a = none) := by unfold k6; rw [← HR.out.2, prF_nocolon hl hm (by rw [← hcc]; exact hk)]; rfl
            rw [← hcc] at hc
            have g4 : (((c : Nat) : Int) == 58) = false := by simp; omega
            clear HH HV hm hk hcc HR
            go_wp2_with (refine stRow 45 (.tmp 3) (.tmp 31) rfl rfl w.heap.size (fdc ⟨0, 0, 0, 0⟩) rfl rfl 45 _ HZ2.out.blk (fd4 _) rfl (fd1 _) ?_)
            try simp only [Exit.inBlock, Exit.then]
            refine bodyPost_ret (v := kdV none) (results_ct Tryz.results36 _ _ w.heap.size ⟨0, 0, 0, 0⟩ rfl ?_) rfl ?_
            · exact (HZ2.out.set _).blk
            · exact ⟨by rw [HN.out], (HZ2.out.set _).low⟩
        · have g2 : (((i : Int) % 3) == 2) = false := by simp; omega
          cases hk : isH c with
          | true =>
            have hv16 := hv_lt hk
            have hsh := shl4 n
            have hor := orHx n (hv c) hv16
            have HX : Hid (hx n (hv c) < 18446744073709551616) := hx_lt hv16
            have HN : Hid (prF s a (17 - (i + 1)) (i + 1) (hx n (hv c)) = pr s a) := by rw [← HR.out.2, prF_hex hl hm (by rw [← hcc]; exact hk), hcc]; rfl
            rw [← hcc] at hc HH HV
            rw [hk] at HH
            have HV2 := hid (HV.out hk)
            generalize hx n (hv c) = n' at hor HN HX
            generalize hv c = hvc at hor hv16 HV2
            generalize n * 16 % 18446744073709551616 = m at hor hsh
            clear hm hk hcc HZ2 HV hv16 HR
            go_wp2_with (first
              | (go_at_call 19; refine (HH.out _).mono ?_; rintro e w' ⟨rfl, rfl⟩)
              | (go_at_call 37; refine (HV2.out _).mono ?_; rintro e w' ⟨rfl, rfl⟩))
            go_round
            case rel => exact ⟨n', i + 1, rfl, by go_num, by omega, HX.out, HN.out⟩
            case measure => simp [intOf]; omega
          | false =>
            have HN : Hid (k6 s a = none) := by unfold k6; rw [← HR.out.2, prF_nohex hl hm (by rw [← hcc]; exact hk)]; rfl
            rw [← hcc] at hc HH
            rw [hk] at HH
            clear HV hm hk hcc HR
            go_wp2_with (first
              | (go_at_call 19; refine (HH.out _).mono ?_; rintro e w' ⟨rfl, rfl⟩)
              | (refine stRow 45 (.tmp 3) (.tmp 35) rfl rfl w.heap.size (fdc ⟨0, 0, 0, 0⟩) rfl rfl 45 _ HZ2.out.blk (fd4 _) rfl (fd1 _) ?_))
            try simp only [Exit.inBlock, Exit.then]
            refine bodyPost_ret (v := kdV none) (results_ct Tryz.results36 _ _ w.heap.size ⟨0, 0, 0, 0⟩ rfl ?_) rfl ?_
            · exact (HZ2.out.set _).blk
            · exact ⟨by rw [HN.out], (HZ2.out.set _).low⟩
      · obtain rfl : i = 17 := by omega
        have g1 : decide ((17 : Int) < 17) = false := by decide
        have HK : Hid (k6 s a = some ⟨2, a + 17, n, 0⟩) := by unfold k6; rw [← HR.out.2]; rfl
        have HN := hid (number_any (a + 17) n)
        have e17 : (((a + 17 : Nat)) : Int) = (a : Int) + 17 := by omega
        rw [e17] at HN
        clear HR hl
        go_wp2_with (first
          | (go_at_call 38; refine (HN.out _).mono ?_; rintro e W2 ⟨rfl, hb2⟩; have HZ3 := hid (HZ2.out.on hb2); clear hb2 HN)
          | (refine stRow 45 (.tmp 3) (.tmp 46) rfl rfl w.heap.size (fdc ⟨2, a + 17, n, 0⟩) rfl rfl 45 _ HZ3.out.blk (fd4 _) rfl (fd1 _) ?_))
        try simp only [Exit.inBlock, Exit.then]
        refine bodyPost_ret (v := kdV (some ⟨2, a + 17, n, 0⟩)) (results_ct Tryz.results36 _ _ w.heap.size ⟨2, a + 17, n, 0⟩ rfl ?_) rfl ?_
        · exact (HZ3.out.set _).blk
        · exact ⟨by rw [HK.out], (HZ3.out.set _).low⟩
end Go.Proofs.YtbbankcmeanjaaaGreatDoor
