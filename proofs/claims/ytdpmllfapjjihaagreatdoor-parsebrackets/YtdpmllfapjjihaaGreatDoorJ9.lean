/- Plain: a text in brackets, with a line's end behind it: its words. -/
import Derived.Test.YtdpmllfapjjihaaGreatDoorJ8
namespace Go.Proofs.YtdpmllfapjjihaaGreatDoor
set_option maxRecDepth 100000

theorem size_app (x y : ByteArray) : (x ++ y).size = x.size + y.size := by rw [size_list, size_list x, size_list y, ByteArray.data_append, Array.toList_append, List.length_append]
theorem bt_app (x y : ByteArray) (i : Nat) : bt (x ++ y) i = if i < x.size then bt x i else bt y (i - x.size) := by
  rw [bt_list, bt_list x, bt_list y, ByteArray.data_append, Array.toList_append, size_list x]
  split
  · rename_i h; rw [List.getElem?_append_left h]
  · rename_i h; rw [List.getElem?_append_right (by omega)]
/-- a sign of one byte -/
theorem one_sign {T : ByteArray} {i c : Nat} (hb : bt T i = c) (hs : c ∈ sgn) : one T i = ⟨3, i + 1, 0, 0⟩ := by
  have hH : isH c = false := by simp [sgn] at hs; rcases hs with rfl | rfl | rfl | rfl | rfl | rfl | rfl | rfl | rfl | rfl | rfl <;> decide
  have hL : isL c = false := by simp [sgn] at hs; rcases hs with rfl | rfl | rfl | rfl | rfl | rfl | rfl | rfl | rfl | rfl | rfl <;> decide
  have hD : isD c = false := by simp [sgn] at hs; rcases hs with rfl | rfl | rfl | rfl | rfl | rfl | rfl | rfl | rfl | rfl | rfl <;> decide
  have h58 : c ≠ 58 := by simp [sgn] at hs; rcases hs with rfl | rfl | rfl | rfl | rfl | rfl | rfl | rfl | rfl | rfl | rfl <;> decide
  have hp : pr T i = none := by
    cases h : pr T i with
    | none => rfl
    | some m => have := pr_H h; rw [hb, hH] at this; cases this
  unfold one
  rw [hp, hb, if_neg (by rintro (h | h); cases h; rw [hD] at h; cases h), if_neg (by rw [hL]; decide), if_neg (fun h => h58 h.1), if_pos hs]
theorem sc_sign {T : ByteArray} {i c : Nat} {acc : List Wd} (hb : bt T i = c) (hs : c ∈ sgn) : sc T i acc = sc T (i + 1) (acc ++ [⟨3, T.extract i (i + 1), 0, i⟩]) := by
  have hin : i < T.size := in_of_bt (by rw [hb]; simp [sgn] at hs; omega)
  have hblk : blk c = false := by simp [sgn] at hs; rcases hs with rfl | rfl | rfl | rfl | rfl | rfl | rfl | rfl | rfl | rfl | rfl <;> decide
  have h35 : c ≠ 35 := by simp [sgn] at hs; omega
  have ho := one_sign hb hs
  rw [sc_wd hin (by rw [hb]; exact hblk) (by rw [hb]; exact h35) (by rw [ho]), ho]
  unfold wdOf
  rfl
/-- a whole text within another, a line's end behind it -/
theorem sc_text {a T : ByteArray} {l ws : List Wd} {q : Nat} (ha : all a = .ok l) (hl : l = ws ++ [wEnd a]) (hseg : ∀ i, i < a.size → bt T (q + i) = bt a i) (hz : bt T (q + a.size) = 10 ∨ bt T (q + a.size) = 256) (acc : List Wd) : sc T q acc = sc T (q + a.size) (acc ++ ws.map (sh 0 q)) := by
  have hlen : l.length = ws.length + 1 := by rw [hl]; simp
  have h65 : a.size ≤ 65536 := by obtain ⟨_, _, _, h⟩ := all_stand ha; exact h
  have hsc : scF a (a.size - 0) 0 [] = .ok l := by
    unfold all at ha; rw [if_neg (by omega)] at ha; exact ha
  have hat : (wat l ws.length).at' = 0 + a.size := by rw [hl, wat_last]; show a.size = _; omega
  have := seg (s := a) (T := T) (b := 0) (q := q) (m := a.size) (fun i hi => by rw [Nat.zero_add]; exact hseg i hi) hz (by omega) _ 0 [] l ws.length hsc (by omega) (by simp) (by omega) hat (by omega) (by omega) acc
  rw [show q + (0 - 0) = q by omega] at this
  rw [this]
  congr 2
  rw [hl, List.length_nil, List.drop_zero, List.take_left]
theorem ext_one {T : ByteArray} {i c : Nat} (hb : bt T i = c) (hc : c < 256) : T.extract i (i + 1) = ⟨#[UInt8.ofNat c]⟩ := by
  have hin : i < T.size := in_of_bt (by rw [hb]; omega)
  have h1 : T.data.size = T.size := rfl
  apply ByteArray.ext
  rw [ByteArray.data_extract]
  apply Array.ext
  · rw [Array.size_extract]; simp; omega
  · intro j hj1 hj2
    rw [Array.size_extract] at hj1
    obtain rfl : j = 0 := by omega
    rw [Array.getElem_extract]
    rw [bt_in hin] at hb
    have : (T.data[i + 0]'(by omega)).toNat = (UInt8.ofNat c).toNat := by
      show T[i].toNat = c % 256
      rw [hb]; omega
    exact UInt8.toNat_inj.1 this
/-- the words of a text in brackets -/
def brk (q : Nat) (n : Nat) (ws : List Wd) : List Wd := ⟨3, Slp, 0, q⟩ :: (ws.map (sh 0 (q + 1)) ++ [⟨3, Srp, 0, q + 1 + n + 1⟩])
theorem sc_brk {a T : ByteArray} {l ws : List Wd} {q : Nat} (ha : all a = .ok l) (hl : l = ws ++ [wEnd a]) (h0 : bt T q = 40) (hseg : ∀ i, i < a.size → bt T (q + 1 + i) = bt a i) (h1 : bt T (q + 1 + a.size) = 10) (h2 : bt T (q + 1 + a.size + 1) = 41) (acc : List Wd) : sc T q acc = sc T (q + 1 + a.size + 2) (acc ++ brk q a.size ws) := by
  rw [sc_sign h0 (by decide), ext_one h0 (by decide), sc_text ha hl hseg (Or.inl h1), sc_blk (by rw [h1]; decide), sc_sign h2 (by decide), ext_one h2 (by decide)]
  unfold brk
  congr 1
  simp
end Go.Proofs.YtdpmllfapjjihaaGreatDoor
