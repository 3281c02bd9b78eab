/-
  Proved here: sixPairs' closure of package scan finds six pairs, and their number; no old memory turns. Conditions: the text lies in its variable; the place is within it.
-/
/-
  Proved here: strconv.ParseUint at digits of a text, for 8 and 64 bits; strings.HasPrefix at a prefix of two bytes. Conditions: the package's two errors are some.
-/
import Derived.Test.YtoncogkamlgjhaaGreatDoorFQ2
import Derived.Lib.ConvBytes
import Derived.Laws.BitsAllLaws
import Derived.Test.YtoncogkamlgjhaaGreatDoorFSLP
import Derived.Lib.AtoiErrMem
namespace Go.Proofs.YtoncogkamlgjhaaGreatDoor
set_option maxRecDepth 100000
open Go.RowKit
set_option maxRecDepth 100000

theorem shl4 (n : Nat) : IntKind.u64.wrap ((n : Int) * 16) = ((n * 16 % 18446744073709551616 : Nat) : Int) := by rw [IntKind.wrap_u64]; omega
theorem or_low {a b i : Nat} (ha : a % 2 ^ i = 0) (hb : b < 2 ^ i) : a ||| b = a + b := by
  have h := Nat.shiftLeft_add_eq_or_of_lt hb (a / 2 ^ i)
  rw [Nat.shiftLeft_eq] at h
  have e : a / 2 ^ i * 2 ^ i = a := by have := Nat.div_add_mod a (2 ^ i); rw [ha, Nat.add_zero, Nat.mul_comm] at this; exact this
  rw [e] at h; exact h.symm
theorem orHx (n v : Nat) (hv : v < 16) : bits .or .u64 ((n * 16 % 18446744073709551616 : Nat) : Int) (v : Int) = ((hx n v : Nat) : Int) := by
  rw [u64_or_nat _ _ (by omega) (by omega), or_low (i := 4) (by omega) (by omega)]; rfl
theorem ext_bt {s : ByteArray} {a e j : Nat} (he : e ≤ s.size) (hj : j < e - a) : ((s.extract a e).data.toList.getD j 0).toNat = bt s (a + j) := by
  have hl : a + j < s.size := by omega
  rw [bt_in hl]
  have h1 : (s.extract a e).data.toList = (s.data.toList.drop a).take (e - a) := by
    rw [ByteArray.data_extract, Array.toList_extract]
  rw [h1, List.getD_eq_getElem?_getD, List.getElem?_take, if_pos hj, List.getElem?_drop]
  have h2 : s.data.toList[a + j]? = some (s[a + j]'hl) := by
    have : s.data[a + j]? = some (s[a + j]'hl) := by
      have hd : a + j < s.data.size := hl
      rw [Array.getElem?_eq_getElem hd]; rfl
    simpa using this
  rw [h2]; rfl
def k6 (s : ByteArray) (a : Nat) : Option Fd := (pr s a).map fun n => ⟨2, a + 17, n, 0⟩
theorem prF_colon {s : ByteArray} {a i n : Nat} (hi : i < 17) (hm : i % 3 = 2) (h : bt s (a + i) = 58) : prF s a (17 - i) i n = prF s a (17 - (i + 1)) (i + 1) n := by
  rw [show 17 - i = (17 - (i + 1)) + 1 by omega, prF, if_pos hm, if_pos h]
theorem prF_nocolon {s : ByteArray} {a i n : Nat} (hi : i < 17) (hm : i % 3 = 2) (h : bt s (a + i) ≠ 58) : prF s a (17 - i) i n = none := by
  rw [show 17 - i = (17 - (i + 1)) + 1 by omega, prF, if_pos hm, if_neg h]
theorem prF_hex {s : ByteArray} {a i n : Nat} (hi : i < 17) (hm : i % 3 ≠ 2) (h : isH (bt s (a + i)) = true) : prF s a (17 - i) i n = prF s a (17 - (i + 1)) (i + 1) (hx n (hv (bt s (a + i)))) := by
  rw [show 17 - i = (17 - (i + 1)) + 1 by omega, prF, if_neg hm, if_pos h]
theorem prF_nohex {s : ByteArray} {a i n : Nat} (hi : i < 17) (hm : i % 3 ≠ 2) (h : isH (bt s (a + i)) = false) : prF s a (17 - i) i n = none := by
  rw [show 17 - i = (17 - (i + 1)) + 1 by omega, prF, if_neg hm, if_neg (by rw [h]; decide)]
/-- Block g, made in a call, is for what is found: z stands in it; old memory stays. -/
structure Rz (w : World) (g : Nat) (z : Fd) (W : World) : Prop where
  low : Below w.heap.size w W
  ge : w.heap.size ≤ g
  blk : W.heap[g]? = some (.cells (fdc z) 71 (0, 0))
theorem Rz.on {w : World} {g : Nat} {z : Fd} {W W' : World} (h : Rz w g z W) (hb : Below W.heap.size W W') : Rz w g z W' :=
  ⟨h.low.trans (hb.mono h.low.size), h.ge, (hb.block _ (Array.getElem?_eq_some_iff.1 h.blk).1).trans h.blk⟩
theorem Rz.new (w : World) : Rz w w.heap.size ⟨0, 0, 0, 0⟩ (w.alloc (.cells (fdc ⟨0, 0, 0, 0⟩) 71)) := ⟨(Below.refl _ _).alloc (Nat.le_refl _) _, Nat.le_refl _, heap_alloc_new _ _⟩
theorem Rz.set {w : World} {g : Nat} {z : Fd} {W : World} (h : Rz w g z W) (f : Fd) : Rz w g f (W.setRow g (fdc f)) :=
  ⟨below_setRow h.low h.ge _, h.ge, setRow_heap _ _ _ _ _ _ h.blk⟩
theorem below_bytes (w : World) (e : TypeId) (s : ByteArray) : Below w.heap.size w (Lib.bytesWorld w e s) :=
  ⟨rfl, rfl, rfl, by rw [Lib.bytesWorld_size]; omega, fun k hk => Lib.bytesWorld_at_old w e s k hk⟩
set_option maxHeartbeats 1600000 in
theorem six_any (s : ByteArray) (a b : Nat) (w : World) (hb : w.cell? ⟨b, 0, none⟩ = some (.string s)) (ha : a ≤ s.size) (hs : s.size ≤ 65536) :
    Calls Tryz.prog 68 #[.int .i64 a, .pointer (some ⟨b, 0, none⟩)] w fun e w' => e = .returned (kdV (k6 s a)) ∧ Below w.heap.size w w' := by
  have hbl : b < w.heap.size := cell_lt hb
  have g0 : IntKind.i64.wrap ((s.size : Int) - (a : Int)) = (s.size : Int) - (a : Int) := by rw [IntKind.wrap_i64]; omega
  by_cases h17 : s.size < a + 17
  · have hr : k6 s a = none := by
      unfold k6
      cases h : pr s a with
      | none => rfl
      | some n => have := pr_in h; omega
    rw [hr]
    have g1 : decide ((s.size : Int) - (a : Int) < 17) = true := by simp; omega
    clear hr
    go_enter Tryz.func68, Tryz.ntmps68
    go_wp2
    try simp only [Exit.inBlock, Exit.then]
    exact bodyPost_ret (v := kdV none) (results_ct Tryz.results68 _ _ w.heap.size ⟨0, 0, 0, 0⟩ rfl (heap_alloc_new _ _)) rfl ⟨rfl, (Below.refl _ _).alloc (Nat.le_refl _) _⟩
  · have g1 : decide ((s.size : Int) - (a : Int) < 17) = false := by simp; omega
    have g2 : IntKind.i64.wrap ((a : Int) + 17) = (a : Int) + 17 := by rw [IntKind.wrap_i64]; omega
    have hcb : (w.alloc (.cells (fdc ⟨0, 0, 0, 0⟩) 71)).cell? ⟨b, 0, none⟩ = some (.string s) := by rw [World.cell?_alloc_lt _ _ _ hbl]; exact hb
    have HZ := hid (Rz.new w)
    go_enter Tryz.func68, Tryz.ntmps68
    go_upto_region 3 with fail
    obtain ⟨W0, hW0⟩ : ∃ W0, W0 = w.alloc (.cells (fdc ⟨0, 0, 0, 0⟩) 71) := ⟨_, rfl⟩
    have hE0 : w.alloc (.cells #[.int .i8 0, .int .i64 0, .int .u64 0, .int .i64 0] 71) = W0 := hW0.symm
    rw [← hW0] at HZ hcb
    rw [hE0]
    clear hE0 hW0
    have hcv := Lib.run_convert_string_bytes (P := Tryz.prog) W0 9 87 5 (s.extract a (a + 17)) (u := .string) Tryz.underlying9 Tryz.underlying87 Tryz.underlying5
    have hsz : (s.extract a (a + 17)).size = 17 := by rw [size_ext (by omega)]; omega
    rw [hsz] at hcv
    have hB : ∀ j, j < 17 → (Lib.bytesWorld W0 5 (s.extract a (a + 17))).cell? ⟨W0.heap.size, j, none⟩ = some (.int .u8 ((bt s (a + j) : Nat) : Int)) := fun j hj => by
      rw [Lib.bytesWorld_cell W0 5 _ j (by rw [hsz]; exact hj), ext_bt (by omega) (by omega)]
    have HZ2 := hid (HZ.out.on (below_bytes W0 5 (s.extract a (a + 17))))
    generalize Lib.bytesWorld W0 5 (s.extract a (a + 17)) = W1 at hcv hB HZ2
    have g3 : decide ((a : Int) ≤ (s.size : Int)) = true := by simp; omega
    go_upto_region 5 with fail
    have HB := hid hB
    clear hB hcv hsz g3 HZ hcb hb h17 g1 g0
    go_loop [5, 21] (fun vn vi => ∃ n i : Nat, vn = .int .u64 n ∧ vi = .int .i64 i ∧ i ≤ 17 ∧ Hid (n < 18446744073709551616 ∧ prF s a (17 - i) i n = pr s a)) (fun _ vi => 17 - (intOf vi).toNat)
    case atStart => exact ⟨0, 0, rfl, rfl, by omega, by decide, rfl⟩
    case round =>
      obtain ⟨n, i, rfl, rfl, hi, HR⟩ := hrel
      by_cases hl : i < 17
      · have g1 : decide ((i : Int) < 17) = true := by simp; omega
        have hc := HB.out i hl
        have hw1 : IntKind.i64.wrap ((i : Int) + 1) = (i : Int) + 1 := by rw [IntKind.wrap_i64]; omega
        have HH := hid (fun W => isHexDigit_any (bt s (a + i)) W)
        have HV := hid (fun (h : isH (bt s (a + i)) = true) W => hexValue_any (bt s (a + i)) h W)
        obtain ⟨c, hcc⟩ : ∃ c, c = bt s (a + i) := ⟨_, rfl⟩
        by_cases hm : i % 3 = 2
        · have g2 : (((i : Int) % 3) == 2) = true := by simp; omega
          by_cases hk : c = 58
          · have HN : Hid (prF s a (17 - (i + 1)) (i + 1) n = pr s a) := by rw [← HR.out.2, prF_colon hl hm (by rw [← hcc]; exact hk)]; rfl
            rw [← hcc, hk, show ((58 : Nat) : Int) = 58 from rfl] at hc
            clear HH HV hm hk hcc HZ2
            go_wp2
            go_round
            case rel => exact ⟨n, i + 1, rfl, by go_num, by omega, HR.out.1, HN.out⟩
            case measure => simp [intOf]; omega
          · have HN : Hid (k6 s a = none) := by unfold k6; rw [← HR.out.2, prF_nocolon hl hm (by rw [← hcc]; exact hk)]; rfl
            rw [← hcc] at hc
            have g4 : (((c : Nat) : Int) == 58) = false := by simp; omega
            clear HH HV hm hk hcc HR
            go_wp2_with (refine stRow 71 (.tmp 3) (.tmp 31) rfl rfl w.heap.size (fdc ⟨0, 0, 0, 0⟩) rfl rfl 71 _ HZ2.out.blk (fd4 _) rfl (fd1 _) ?_)
            try simp only [Exit.inBlock, Exit.then]
            refine bodyPost_ret (v := kdV none) (results_ct Tryz.results68 _ _ w.heap.size ⟨0, 0, 0, 0⟩ rfl ?_) rfl ?_
            · exact (HZ2.out.set _).blk
            · exact ⟨by rw [HN.out], (HZ2.out.set _).low⟩
        · have g2 : (((i : Int) % 3) == 2) = false := by simp; omega
          cases hk : isH c with
          | true =>
            have hv16 := hv_lt hk
            have hsh := shl4 n
            have hor := orHx n (hv c) hv16
            have HX : Hid (hx n (hv c) < 18446744073709551616) := hx_lt hv16
            have HN : Hid (prF s a (17 - (i + 1)) (i + 1) (hx n (hv c)) = pr s a) := by rw [← HR.out.2, prF_hex hl hm (by rw [← hcc]; exact hk), hcc]; rfl
            rw [← hcc] at hc HH HV
            rw [hk] at HH
            have HV2 := hid (HV.out hk)
            generalize hx n (hv c) = n' at hor HN HX
            generalize hv c = hvc at hor hv16 HV2
            generalize n * 16 % 18446744073709551616 = m at hor hsh
            clear hm hk hcc HZ2 HV hv16 HR
            go_wp2_with (first
              | (go_at_call 50; refine (HH.out _).mono ?_; rintro e w' ⟨rfl, rfl⟩)
              | (go_at_call 69; refine (HV2.out _).mono ?_; rintro e w' ⟨rfl, rfl⟩))
            go_round
            case rel => exact ⟨n', i + 1, rfl, by go_num, by omega, HX.out, HN.out⟩
            case measure => simp [intOf]; omega
          | false =>
            have HN : Hid (k6 s a = none) := by unfold k6; rw [← HR.out.2, prF_nohex hl hm (by rw [← hcc]; exact hk)]; rfl
            rw [← hcc] at hc HH
            rw [hk] at HH
            clear HV hm hk hcc HR
            go_wp2_with (first
              | (go_at_call 50; refine (HH.out _).mono ?_; rintro e w' ⟨rfl, rfl⟩)
              | (refine stRow 71 (.tmp 3) (.tmp 35) rfl rfl w.heap.size (fdc ⟨0, 0, 0, 0⟩) rfl rfl 71 _ HZ2.out.blk (fd4 _) rfl (fd1 _) ?_))
            try simp only [Exit.inBlock, Exit.then]
            refine bodyPost_ret (v := kdV none) (results_ct Tryz.results68 _ _ w.heap.size ⟨0, 0, 0, 0⟩ rfl ?_) rfl ?_
            · exact (HZ2.out.set _).blk
            · exact ⟨by rw [HN.out], (HZ2.out.set _).low⟩
      · obtain rfl : i = 17 := by omega
        have g1 : decide ((17 : Int) < 17) = false := by decide
        have HK : Hid (k6 s a = some ⟨2, a + 17, n, 0⟩) := by unfold k6; rw [← HR.out.2]; rfl
        have HN := hid (number_any (a + 17) n)
        have e17 : (((a + 17 : Nat)) : Int) = (a : Int) + 17 := by omega
        rw [e17] at HN
        clear HR hl
        go_wp2_with (first
          | (go_at_call 70; refine (HN.out _).mono ?_; rintro e W2 ⟨rfl, hb2⟩; have HZ3 := hid (HZ2.out.on hb2); clear hb2 HN)
          | (refine stRow 71 (.tmp 3) (.tmp 46) rfl rfl w.heap.size (fdc ⟨2, a + 17, n, 0⟩) rfl rfl 71 _ HZ3.out.blk (fd4 _) rfl (fd1 _) ?_))
        try simp only [Exit.inBlock, Exit.then]
        refine bodyPost_ret (v := kdV (some ⟨2, a + 17, n, 0⟩)) (results_ct Tryz.results68 _ _ w.heap.size ⟨2, a + 17, n, 0⟩ rfl ?_) rfl ?_
        · exact (HZ3.out.set _).blk
        · exact ⟨by rw [HK.out], (HZ3.out.set _).low⟩
end Go.Proofs.YtoncogkamlgjhaaGreatDoor
namespace Go.Proofs.YtoncogkamlgjhaaGreatDoor
set_option maxRecDepth 100000
open Go.RowKit
set_option maxRecDepth 100000

/-- Of the package-level variables: strconv's two errors. -/
structure Tab0 (w : World) : Prop where
  e2 : ∃ t p, w.cell? ⟨4, 0, none⟩ = some (.iface t p)
  e3 : ∃ t p, w.cell? ⟨5, 0, none⟩ = some (.iface t p)
theorem Tab0.on {w w' : World} (h : Tab0 w) (hb : Below w.heap.size w w') : Tab0 w' := by
  obtain ⟨t2, p2, h2⟩ := h.e2
  obtain ⟨t3, p3, h3⟩ := h.e3
  exact ⟨⟨t2, p2, by rw [hb.cell (p := ⟨4, 0, none⟩) (cell_lt h2)]; exact h2⟩, ⟨t3, p3, by rw [hb.cell (p := ⟨5, 0, none⟩) (cell_lt h3)]; exact h3⟩⟩
theorem dn_ge (s : ByteArray) : ∀ f k n, n ≤ dn s f k n
  | 0, _, _ => Nat.le_refl _
  | f + 1, k, n => by rw [dn]; have := dn_ge s f (k + 1) (n * 10 + (bt s k - 48)); omega
/-- f bytes from k on -/
def bl (s : ByteArray) (k f : Nat) : List UInt8 := (s.data.toList.drop k).take f
theorem bl_cons {s : ByteArray} {k f : Nat} (h : k < s.size) : bl s k (f + 1) = (s[k]'h) :: bl s (k + 1) f := by
  unfold bl
  have hl : k < s.data.toList.length := by simpa using h
  rw [List.drop_eq_getElem_cons hl, List.take_succ_cons]
  rfl
theorem bl_ext (s : ByteArray) (a e : Nat) : (s.extract a e).data.toList = bl s a (e - a) := by
  rw [ByteArray.data_extract, Array.toList_extract]; rfl
theorem puM {s : ByteArray} {M : Nat} (hM : M ≤ 18446744073709551615) : ∀ f k n, n ≤ M → k + f ≤ s.size → (∀ j, k ≤ j → j < k + f → isD (bt s j) = true) →
    Lib.parseUintM M n (bl s k f) = if dn s f k n ≤ M then .ok (dn s f k n) else .range
  | 0, k, n, hn, _, _ => by rw [show bl s k 0 = [] from rfl, Lib.parseUintM, dn, if_pos hn]
  | f + 1, k, n, hn, hs, hd => by
    have hk : k < s.size := by omega
    have h0 := hd k (by omega) (by omega)
    rw [isD_iff] at h0
    rw [bl_cons hk, Lib.parseUintM, ← bt_in hk, if_pos h0, dn]
    have hg := dn_ge s f (k + 1) (n * 10 + (bt s k - 48))
    split
    · rw [if_neg (by omega)]
    · split
      · rw [if_neg (by omega)]
      · exact puM hM f (k + 1) _ (by omega) (by omega) (fun j h1 h2 => hd j (by omega) (by omega))
theorem puB {s : ByteArray} {a e B : Nat} (hB : 2 ^ B - 1 ≤ 18446744073709551615) (h1 : a < e) (h2 : e ≤ s.size) (hd : ∀ j, a ≤ j → j < e → isD (bt s j) = true) :
    Lib.parseUintB B (s.extract a e).data.toList = if dn s (e - a) a 0 ≤ 2 ^ B - 1 then .ok (dn s (e - a) a 0) else .range := by
  rw [bl_ext, Lib.parseUintB, if_neg, puM hB _ _ _ (by omega) (by omega) (fun j k1 k2 => hd j k1 (by omega))]
  obtain ⟨f, hf⟩ : ∃ f, e - a = f + 1 := ⟨e - a - 1, by omega⟩
  rw [hf, bl_cons (by omega)]; simp
theorem puE {s : ByteArray} {a B : Nat} : Lib.parseUintB B (s.extract a a).data.toList = .syntax := by
  rw [bl_ext, Lib.parseUintB, if_pos]; rw [Nat.sub_self]; rfl
theorem ext_size {s : ByteArray} {a e : Nat} (h2 : e ≤ s.size) (hs : s.size ≤ 65536) : (s.extract a e).size ≤ 281474976710656 := by rw [size_ext h2]; omega

theorem pu64_ok {s : ByteArray} {a e : Nat} (h1 : a < e) (h2 : e ≤ s.size) (hs : s.size ≤ 65536) (hd : ∀ j, a ≤ j → j < e → isD (bt s j) = true) (hn : dn s (e - a) a 0 ≤ 18446744073709551615) (w : World) :
    Calls Tryz.prog 77 #[.string (s.extract a e), .int .i64 10, .int .i64 64] w fun r w' => r = .returned (.tuple #[.int .u64 ((dn s (e - a) a 0 : Nat) : Int), .nilIface]) ∧ Below w.heap.size w w' := by
  have hp := puB (s := s) (a := a) (e := e) (B := 64) (by decide) h1 h2 hd
  rw [if_pos (by exact hn)] at hp
  refine (Any.strconv_ParseUint_10_at64_ok Tryz.layPU (s.extract a e) (by have := ext_size (a := a) h2 hs; omega) _ hp w).mono fun r w' ⟨he, hw⟩ => ⟨he, ?_⟩
  rcases hw with rfl | rfl
  · exact Below.refl _ _
  · exact below_bytes _ _ _
theorem pu8_ok {s : ByteArray} {a e : Nat} (h1 : a < e) (h2 : e ≤ s.size) (hs : s.size ≤ 65536) (hd : ∀ j, a ≤ j → j < e → isD (bt s j) = true) (hn : dn s (e - a) a 0 ≤ 255) (w : World) :
    Calls Tryz.prog 77 #[.string (s.extract a e), .int .i64 10, .int .i64 8] w fun r w' => r = .returned (.tuple #[.int .u64 ((dn s (e - a) a 0 : Nat) : Int), .nilIface]) ∧ Below w.heap.size w w' := by
  have hp := puB (s := s) (a := a) (e := e) (B := 8) (by decide) h1 h2 hd
  rw [if_pos (by exact hn)] at hp
  refine (Any.strconv_ParseUint_10_at8_ok Tryz.layPU (s.extract a e) (by have := ext_size (a := a) h2 hs; omega) _ hp w).mono fun r w' ⟨he, hw⟩ => ⟨he, ?_⟩
  rcases hw with rfl | rfl
  · exact Below.refl _ _
  · exact below_bytes _ _ _
theorem pu64_no {s : ByteArray} {a e : Nat} (h1 : a < e) (h2 : e ≤ s.size) (hs : s.size ≤ 65536) (hd : ∀ j, a ≤ j → j < e → isD (bt s j) = true) (hn : 18446744073709551615 < dn s (e - a) a 0) (w : World) (ht : Tab0 w) :
    Calls Tryz.prog 77 #[.string (s.extract a e), .int .i64 10, .int .i64 64] w fun r w' => (∃ (n : Int) (N : Nat), r = .returned (.tuple #[.int .u64 n, .iface 125 (.pointer (some ⟨N, 0, none⟩))])) ∧ Below w.heap.size w w' := by
  have hp := puB (s := s) (a := a) (e := e) (B := 64) (by decide) h1 h2 hd
  rw [if_neg (show ¬ dn s (e - a) a 0 ≤ 2 ^ 64 - 1 by omega)] at hp
  obtain ⟨t3, p3, hc⟩ := ht.e3
  exact (Any.strconv_ParseUint_10_at64_range Tryz.layPU (s.extract a e) (ext_size h2 hs) hp _ w hc (Or.inr ⟨_, _, rfl⟩)).mono fun r w' ⟨N, he, _, _, hw⟩ => ⟨⟨_, N, he⟩, hw⟩
theorem pu8_no {s : ByteArray} {a e : Nat} (h1 : a ≤ e) (h2 : e ≤ s.size) (hs : s.size ≤ 65536) (hd : ∀ j, a ≤ j → j < e → isD (bt s j) = true) (hn : a = e ∨ 255 < dn s (e - a) a 0) (w : World) (ht : Tab0 w) :
    Calls Tryz.prog 77 #[.string (s.extract a e), .int .i64 10, .int .i64 8] w fun r w' => (∃ (n : Int) (N : Nat), r = .returned (.tuple #[.int .u64 n, .iface 125 (.pointer (some ⟨N, 0, none⟩))])) ∧ Below w.heap.size w w' := by
  obtain ⟨t2, p2, hc2⟩ := ht.e2
  obtain ⟨t3, p3, hc3⟩ := ht.e3
  by_cases hae : a = e
  · subst hae
    exact (Any.strconv_ParseUint_10_at8_syntax Tryz.layPU (s.extract a a) (ext_size h2 hs) puE _ w hc2 (Or.inr ⟨_, _, rfl⟩)).mono fun r w' ⟨N, he, _, _, hw⟩ => ⟨⟨_, N, he⟩, hw⟩
  · have hp := puB (s := s) (a := a) (e := e) (B := 8) (by decide) (by omega) h2 hd
    rw [if_neg (show ¬ dn s (e - a) a 0 ≤ 2 ^ 8 - 1 by omega)] at hp
    exact (Any.strconv_ParseUint_10_at8_range Tryz.layPU (s.extract a e) (ext_size h2 hs) hp _ w hc3 (Or.inr ⟨_, _, rfl⟩)).mono fun r w' ⟨N, he, _, _, hw⟩ => ⟨⟨_, N, he⟩, hw⟩

theorem ext_bt0 {s : ByteArray} {a e j : Nat} (he : e ≤ s.size) (hj : j < e - a) : bt (s.extract a e) j = bt s (a + j) := by
  have hz : j < (s.extract a e).size := by rw [size_ext he]; exact hj
  have := ext_bt he hj
  rw [← this, bt_in hz]
  have h2 : (s.extract a e).data.toList[j]? = some ((s.extract a e)[j]'hz) := by
    have : (s.extract a e).data[j]? = some ((s.extract a e)[j]'hz) := by
      have hd : j < (s.extract a e).data.size := hz
      rw [Array.getElem?_eq_getElem hd]; rfl
    rw [Array.getElem?_toList]; exact this
  rw [List.getD_eq_getElem?_getD, h2]; rfl
/-- bytes are like those of another text -/
theorem hp_list {t : ByteArray} {x y : UInt8} (h : 2 ≤ t.size) : ((t.extract 0 2).toList == [x, y]) = decide (bt t 0 = x.toNat ∧ bt t 1 = y.toNat) := by
  have e1 : (t.extract 0 2).toList = [t[0]'(by omega), t[1]'(by omega)] := by
    rw [ByteArray.toList_eq, bl_ext]
    show bl t 0 (1 + 1) = _
    rw [bl_cons (show 0 < t.size by omega)]
    show _ :: bl t 1 (0 + 1) = _
    rw [bl_cons (show 1 < t.size by omega)]
    rfl
  rw [e1, bt_in (show 0 < t.size by omega), bt_in (show 1 < t.size by omega), Bool.eq_iff_iff]
  simp [UInt8.toNat_inj]
theorem hasPrefix_any (t : ByteArray) (x y : UInt8) (hs : t.size ≤ 9223372036854775806) (w : World) : Calls Tryz.prog 54 #[.string t, .string ⟨#[x, y]⟩] w fun r w' => r = .returned (.bool (decide (bt t 0 = x.toNat ∧ bt t 1 = y.toNat))) ∧ w' = w := by
  have hz : (ByteArray.mk #[x, y]).size = 2 := rfl
  by_cases h : 2 ≤ t.size
  · have g1 : decide ((2 : Int) ≤ (t.size : Int)) = true := by simp; omega
    have hq := hp_list (x := x) (y := y) h
    generalize decide (bt t 0 = x.toNat ∧ bt t 1 = y.toNat) = r at hq
    go_enter Tryz.func54, Tryz.ntmps54
    go_wp2
    go_ret
    exact ⟨by rw [← hq]; rfl, rfl⟩
  · have g1 : decide ((2 : Int) ≤ (t.size : Int)) = false := by simp; omega
    have hr : decide (bt t 0 = x.toNat ∧ bt t 1 = y.toNat) = false := by
      simp only [decide_eq_false_iff_not]
      rintro ⟨-, h2⟩
      rw [bt_out (by omega)] at h2
      have := y.toNat_lt; omega
    rw [hr]; clear hr
    go_enter Tryz.func54, Tryz.ntmps54
    go_wp2
    go_ret
    exact ⟨rfl, rfl⟩
end Go.Proofs.YtoncogkamlgjhaaGreatDoor
