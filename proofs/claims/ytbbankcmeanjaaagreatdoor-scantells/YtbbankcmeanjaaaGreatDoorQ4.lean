/-
  Proved here: strconv.ParseUint at digits of a text, for 8 and 64 bits; strings.HasPrefix at a prefix of two bytes. Conditions: the package's two errors are some.
-/
import Derived.Test.YtbbankcmeanjaaaGreatDoorQ3
import Derived.Test.YtbbankcmeanjaaaGreatDoorSLP
import Derived.Lib.AtoiErrMem
namespace Go.Proofs.YtbbankcmeanjaaaGreatDoor
set_option maxRecDepth 100000
open Go.RowKit
set_option maxRecDepth 100000

/-- Of the package-level variables: error's type, and strconv's two errors. -/
structure Tab (w : World) : Prop where
  ty : w.cell? ⟨0, 0, none⟩ = some (.iface 95 (.agg #[.pointer (some ⟨7, 24, none⟩)]))
  e2 : ∃ t p, w.cell? ⟨2, 0, none⟩ = some (.iface t p)
  e3 : ∃ t p, w.cell? ⟨3, 0, none⟩ = some (.iface t p)
theorem Tab.on {w w' : World} (h : Tab w) (hb : Below w.heap.size w w') : Tab w' := by
  obtain ⟨t2, p2, h2⟩ := h.e2
  obtain ⟨t3, p3, h3⟩ := h.e3
  exact ⟨by rw [hb.cell (p := ⟨0, 0, none⟩) (cell_lt h.ty)]; exact h.ty, ⟨t2, p2, by rw [hb.cell (p := ⟨2, 0, none⟩) (cell_lt h2)]; exact h2⟩, ⟨t3, p3, by rw [hb.cell (p := ⟨3, 0, none⟩) (cell_lt h3)]; exact h3⟩⟩

theorem dn_ge (s : ByteArray) : ∀ f k n, n ≤ dn s f k n
  | 0, _, _ => Nat.le_refl _
  | f + 1, k, n => by rw [dn]; have := dn_ge s f (k + 1) (n * 10 + (bt s k - 48)); omega
/-- f bytes from k on -/
def bl (s : ByteArray) (k f : Nat) : List UInt8 := (s.data.toList.drop k).take f
theorem bl_cons {s : ByteArray} {k f : Nat} (h : k < s.size) : bl s k (f + 1) = (s[k]'h) :: bl s (k + 1) f := by
  unfold bl
  have hl : k < s.data.toList.length := by simpa using h
  rw [List.drop_eq_getElem_cons hl, List.take_succ_cons]
  rfl
theorem bl_ext (s : ByteArray) (a e : Nat) : (s.extract a e).data.toList = bl s a (e - a) := by
  rw [ByteArray.data_extract, Array.toList_extract]; rfl
theorem puM {s : ByteArray} {M : Nat} (hM : M ≤ 18446744073709551615) : ∀ f k n, n ≤ M → k + f ≤ s.size → (∀ j, k ≤ j → j < k + f → isD (bt s j) = true) →
    Lib.parseUintM M n (bl s k f) = if dn s f k n ≤ M then .ok (dn s f k n) else .range
  | 0, k, n, hn, _, _ => by rw [show bl s k 0 = [] from rfl, Lib.parseUintM, dn, if_pos hn]
  | f + 1, k, n, hn, hs, hd => by
    have hk : k < s.size := by omega
    have h0 := hd k (by omega) (by omega)
    rw [isD_iff] at h0
    rw [bl_cons hk, Lib.parseUintM, ← bt_in hk, if_pos h0, dn]
    have hg := dn_ge s f (k + 1) (n * 10 + (bt s k - 48))
    split
    · rw [if_neg (by omega)]
    · split
      · rw [if_neg (by omega)]
      · exact puM hM f (k + 1) _ (by omega) (by omega) (fun j h1 h2 => hd j (by omega) (by omega))
theorem puB {s : ByteArray} {a e B : Nat} (hB : 2 ^ B - 1 ≤ 18446744073709551615) (h1 : a < e) (h2 : e ≤ s.size) (hd : ∀ j, a ≤ j → j < e → isD (bt s j) = true) :
    Lib.parseUintB B (s.extract a e).data.toList = if dn s (e - a) a 0 ≤ 2 ^ B - 1 then .ok (dn s (e - a) a 0) else .range := by
  rw [bl_ext, Lib.parseUintB, if_neg, puM hB _ _ _ (by omega) (by omega) (fun j k1 k2 => hd j k1 (by omega))]
  obtain ⟨f, hf⟩ : ∃ f, e - a = f + 1 := ⟨e - a - 1, by omega⟩
  rw [hf, bl_cons (by omega)]; simp
theorem puE {s : ByteArray} {a B : Nat} : Lib.parseUintB B (s.extract a a).data.toList = .syntax := by
  rw [bl_ext, Lib.parseUintB, if_pos]; rw [Nat.sub_self]; rfl
theorem ext_size {s : ByteArray} {a e : Nat} (h2 : e ≤ s.size) (hs : s.size ≤ 65536) : (s.extract a e).size ≤ 281474976710656 := by rw [size_ext h2]; omega

theorem pu64_ok {s : ByteArray} {a e : Nat} (h1 : a < e) (h2 : e ≤ s.size) (hs : s.size ≤ 65536) (hd : ∀ j, a ≤ j → j < e → isD (bt s j) = true) (hn : dn s (e - a) a 0 ≤ 18446744073709551615) (w : World) :
    Calls Tryz.prog 45 #[.string (s.extract a e), .int .i64 10, .int .i64 64] w fun r w' => r = .returned (.tuple #[.int .u64 ((dn s (e - a) a 0 : Nat) : Int), .nilIface]) ∧ Below w.heap.size w w' := by
  have hp := puB (s := s) (a := a) (e := e) (B := 64) (by decide) h1 h2 hd
  rw [if_pos (by exact hn)] at hp
  refine (Any.strconv_ParseUint_10_at64_ok Tryz.layPU (s.extract a e) (by have := ext_size (a := a) h2 hs; omega) _ hp w).mono fun r w' ⟨he, hw⟩ => ⟨he, ?_⟩
  rcases hw with rfl | rfl
  · exact Below.refl _ _
  · exact below_bytes _ _ _
theorem pu8_ok {s : ByteArray} {a e : Nat} (h1 : a < e) (h2 : e ≤ s.size) (hs : s.size ≤ 65536) (hd : ∀ j, a ≤ j → j < e → isD (bt s j) = true) (hn : dn s (e - a) a 0 ≤ 255) (w : World) :
    Calls Tryz.prog 45 #[.string (s.extract a e), .int .i64 10, .int .i64 8] w fun r w' => r = .returned (.tuple #[.int .u64 ((dn s (e - a) a 0 : Nat) : Int), .nilIface]) ∧ Below w.heap.size w w' := by
  have hp := puB (s := s) (a := a) (e := e) (B := 8) (by decide) h1 h2 hd
  rw [if_pos (by exact hn)] at hp
  refine (Any.strconv_ParseUint_10_at8_ok Tryz.layPU (s.extract a e) (by have := ext_size (a := a) h2 hs; omega) _ hp w).mono fun r w' ⟨he, hw⟩ => ⟨he, ?_⟩
  rcases hw with rfl | rfl
  · exact Below.refl _ _
  · exact below_bytes _ _ _
theorem pu64_no {s : ByteArray} {a e : Nat} (h1 : a < e) (h2 : e ≤ s.size) (hs : s.size ≤ 65536) (hd : ∀ j, a ≤ j → j < e → isD (bt s j) = true) (hn : 18446744073709551615 < dn s (e - a) a 0) (w : World) (ht : Tab w) :
    Calls Tryz.prog 45 #[.string (s.extract a e), .int .i64 10, .int .i64 64] w fun r w' => (∃ (n : Int) (N : Nat), r = .returned (.tuple #[.int .u64 n, .iface 113 (.pointer (some ⟨N, 0, none⟩))])) ∧ Below w.heap.size w w' := by
  have hp := puB (s := s) (a := a) (e := e) (B := 64) (by decide) h1 h2 hd
  rw [if_neg (show ¬ dn s (e - a) a 0 ≤ 2 ^ 64 - 1 by omega)] at hp
  obtain ⟨t3, p3, hc⟩ := ht.e3
  exact (Any.strconv_ParseUint_10_at64_range Tryz.layPU (s.extract a e) (ext_size h2 hs) hp _ w hc (Or.inr ⟨_, _, rfl⟩)).mono fun r w' ⟨N, he, _, _, hw⟩ => ⟨⟨_, N, he⟩, hw⟩
theorem pu8_no {s : ByteArray} {a e : Nat} (h1 : a ≤ e) (h2 : e ≤ s.size) (hs : s.size ≤ 65536) (hd : ∀ j, a ≤ j → j < e → isD (bt s j) = true) (hn : a = e ∨ 255 < dn s (e - a) a 0) (w : World) (ht : Tab w) :
    Calls Tryz.prog 45 #[.string (s.extract a e), .int .i64 10, .int .i64 8] w fun r w' => (∃ (n : Int) (N : Nat), r = .returned (.tuple #[.int .u64 n, .iface 113 (.pointer (some ⟨N, 0, none⟩))])) ∧ Below w.heap.size w w' := by
  obtain ⟨t2, p2, hc2⟩ := ht.e2
  obtain ⟨t3, p3, hc3⟩ := ht.e3
  by_cases hae : a = e
  · subst hae
    exact (Any.strconv_ParseUint_10_at8_syntax Tryz.layPU (s.extract a a) (ext_size h2 hs) puE _ w hc2 (Or.inr ⟨_, _, rfl⟩)).mono fun r w' ⟨N, he, _, _, hw⟩ => ⟨⟨_, N, he⟩, hw⟩
  · have hp := puB (s := s) (a := a) (e := e) (B := 8) (by decide) (by omega) h2 hd
    rw [if_neg (show ¬ dn s (e - a) a 0 ≤ 2 ^ 8 - 1 by omega)] at hp
    exact (Any.strconv_ParseUint_10_at8_range Tryz.layPU (s.extract a e) (ext_size h2 hs) hp _ w hc3 (Or.inr ⟨_, _, rfl⟩)).mono fun r w' ⟨N, he, _, _, hw⟩ => ⟨⟨_, N, he⟩, hw⟩

theorem ext_bt0 {s : ByteArray} {a e j : Nat} (he : e ≤ s.size) (hj : j < e - a) : bt (s.extract a e) j = bt s (a + j) := by
  have hz : j < (s.extract a e).size := by rw [size_ext he]; exact hj
  have := ext_bt he hj
  rw [← this, bt_in hz]
  have h2 : (s.extract a e).data.toList[j]? = some ((s.extract a e)[j]'hz) := by
    have : (s.extract a e).data[j]? = some ((s.extract a e)[j]'hz) := by
      have hd : j < (s.extract a e).data.size := hz
      rw [Array.getElem?_eq_getElem hd]; rfl
    rw [Array.getElem?_toList]; exact this
  rw [List.getD_eq_getElem?_getD, h2]; rfl
/-- bytes are like those of another text -/
theorem hp_list {t : ByteArray} {x y : UInt8} (h : 2 ≤ t.size) : ((t.extract 0 2).toList == [x, y]) = decide (bt t 0 = x.toNat ∧ bt t 1 = y.toNat) := by
  have e1 : (t.extract 0 2).toList = [t[0]'(by omega), t[1]'(by omega)] := by
    rw [ByteArray.toList_eq, bl_ext]
    show bl t 0 (1 + 1) = _
    rw [bl_cons (show 0 < t.size by omega)]
    show _ :: bl t 1 (0 + 1) = _
    rw [bl_cons (show 1 < t.size by omega)]
    rfl
  rw [e1, bt_in (show 0 < t.size by omega), bt_in (show 1 < t.size by omega), Bool.eq_iff_iff]
  simp [UInt8.toNat_inj]
theorem hasPrefix_any (t : ByteArray) (x y : UInt8) (hs : t.size ≤ 9223372036854775806) (w : World) : Calls Tryz.prog 23 #[.string t, .string ⟨#[x, y]⟩] w fun r w' => r = .returned (.bool (decide (bt t 0 = x.toNat ∧ bt t 1 = y.toNat))) ∧ w' = w := by
  have hz : (ByteArray.mk #[x, y]).size = 2 := rfl
  by_cases h : 2 ≤ t.size
  · have g1 : decide ((2 : Int) ≤ (t.size : Int)) = true := by simp; omega
    have hq := hp_list (x := x) (y := y) h
    generalize decide (bt t 0 = x.toNat ∧ bt t 1 = y.toNat) = r at hq
    go_enter Tryz.func23, Tryz.ntmps23
    go_wp2
    go_ret
    exact ⟨by rw [← hq]; rfl, rfl⟩
  · have g1 : decide ((2 : Int) ≤ (t.size : Int)) = false := by simp; omega
    have hr : decide (bt t 0 = x.toNat ∧ bt t 1 = y.toNat) = false := by
      simp only [decide_eq_false_iff_not]
      rintro ⟨-, h2⟩
      rw [bt_out (by omega)] at h2
      have := y.toNat_lt; omega
    rw [hr]; clear hr
    go_enter Tryz.func23, Tryz.ntmps23
    go_wp2
    go_ret
    exact ⟨rfl, rfl⟩
end Go.Proofs.YtbbankcmeanjaaaGreatDoor
