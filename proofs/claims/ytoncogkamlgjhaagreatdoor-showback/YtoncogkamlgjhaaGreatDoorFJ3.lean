/- Plain: runes of a text against its bytes; the program's way through a text; where words stand. -/
import Derived.Test.YtoncogkamlgjhaaGreatDoorFJ2
import Derived.Lib.DecodeN
import Derived.Lib.OthersKept
namespace Go.Proofs.YtoncogkamlgjhaaGreatDoor
set_option maxRecDepth 100000

theorem get_bt {s : ByteArray} {i : Nat} (h : i < s.size) : (s.get! i).toNat = bt s i := by
  rw [bt_in h]
  have := get_at s i h
  rw [Nat.add_zero] at this
  rw [this]
theorem dec_lo {s : ByteArray} {i : Nat} (h : i < s.size) (hb : bt s i < 128) : Utf8.decode s i = (bt s i, 1) := by
  rw [bt_in h] at hb ⊢; exact decode_ascii s i h hb
theorem dec_hi {s : ByteArray} {i : Nat} (h : i < s.size) (hb : ¬ bt s i < 128) :
    128 ≤ (Utf8.decode s i).1 ∧ 1 ≤ (Utf8.decode s i).2 ∧ i + (Utf8.decode s i).2 ≤ s.size ∧ ∀ j, i ≤ j → j < i + (Utf8.decode s i).2 → 128 ≤ bt s j := by
  obtain ⟨h1, h2⟩ := decode_high s i h (by rw [← bt_in h]; omega)
  refine ⟨h1, h2, ?_⟩
  have hw : (Utf8.decode s i).2 = 1 ∨ ((Utf8.decode s i).2 = 2 ∧ i + 1 < s.size ∧ (s.get! (i + 1)).toNat / 64 = 2)
      ∨ ((Utf8.decode s i).2 = 3 ∧ i + 2 < s.size ∧ (s.get! (i + 1)).toNat / 64 = 2 ∧ (s.get! (i + 2)).toNat / 64 = 2)
      ∨ ((Utf8.decode s i).2 = 4 ∧ i + 3 < s.size ∧ (s.get! (i + 1)).toNat / 64 = 2 ∧ (s.get! (i + 2)).toNat / 64 = 2 ∧ (s.get! (i + 3)).toNat / 64 = 2) := by
    rw [Lib.decode_at s i]
    generalize (s.get! i).toNat = b0
    generalize (s.get! (i + 1)).toNat = b1
    generalize (s.get! (i + 2)).toNat = b2
    generalize (s.get! (i + 3)).toNat = b3
    unfold Lib.decodeN
    repeat' split
    all_goals simp
    all_goals omega
  rcases hw with e | ⟨e, l1, c1⟩ | ⟨e, l1, c1, c2⟩ | ⟨e, l1, c1, c2, c3⟩
  · rw [e]; refine ⟨by omega, fun j j1 j2 => ?_⟩
    obtain rfl : j = i := by omega
    omega
  · rw [get_bt (by omega)] at c1
    rw [e]; refine ⟨by omega, fun j j1 j2 => ?_⟩
    rcases (show j = i ∨ j = i + 1 by omega) with rfl | rfl <;> omega
  · rw [get_bt (by omega)] at c1 c2
    rw [e]; refine ⟨by omega, fun j j1 j2 => ?_⟩
    rcases (show j = i ∨ j = i + 1 ∨ j = i + 2 by omega) with rfl | rfl | rfl <;> omega
  · rw [get_bt (by omega)] at c1 c2 c3
    rw [e]; refine ⟨by omega, fun j j1 j2 => ?_⟩
    rcases (show j = i ∨ j = i + 1 ∨ j = i + 2 ∨ j = i + 3 by omega) with rfl | rfl | rfl | rfl <;> omega

/-- the rune at a place, and how wide it is -/
def ru (s : ByteArray) (i : Nat) : Nat := (Utf8.decode s i).1
def wi (s : ByteArray) (i : Nat) : Nat := (Utf8.decode s i).2
theorem ru_lo {s : ByteArray} {i c : Nat} (h : i < s.size) (hc : c < 128) : ru s i = c ↔ bt s i = c := by
  by_cases hb : bt s i < 128
  · rw [ru, dec_lo h hb]
  · have := (dec_hi h hb).1
    rw [ru]; omega
theorem wi_lo {s : ByteArray} {i : Nat} (h : i < s.size) (hb : bt s i < 128) : wi s i = 1 := by rw [wi, dec_lo h hb]
theorem wi_in {s : ByteArray} {i : Nat} (h : i < s.size) : 1 ≤ wi s i ∧ i + wi s i ≤ s.size := by
  by_cases hb : bt s i < 128
  · rw [wi_lo h hb]; omega
  · have := dec_hi h hb; unfold wi; omega
theorem wi_nNL {s : ByteArray} {i : Nat} (h : i < s.size) (hc : bt s i ≠ 10) : rE nNL s (i + wi s i) = rE nNL s i := by
  by_cases hb : bt s i < 128
  · rw [wi_lo h hb, ← rE_on nNL256]
    simp [nNL, hc]; omega
  · obtain ⟨_, h2, h3, h4⟩ := dec_hi h hb
    have go : ∀ n, n ≤ wi s i → rE nNL s (i + n) = rE nNL s i := by
      intro n
      induction n with
      | zero => intro _; rfl
      | succ n ih =>
        intro hn
        have hn' : n < (Utf8.decode s i).2 := hn
        rw [show i + (n + 1) = i + n + 1 by omega, ← rE_on nNL256 (k := i + n), ih (by omega)]
        have hx := h4 (i + n) (by omega) (by omega)
        have hy := bt_lt (s := s) (i := i + n) (by omega)
        simp [nNL]; omega
    exact go _ (Nat.le_refl _)

/-- what is still to be told, for a program that goes through runes: at a place, the last word's end, whether in a remark -/
def st (s : ByteArray) (p en : Nat) (rm : Bool) (acc : List Wd) : Res := if p < en then sc s en acc else if rm = true then sc s (rE nNL s p) acc else sc s p acc
theorem st_in {s : ByteArray} {p en : Nat} {acc : List Wd} (h : p < en) : st s (p + 1) en false acc = st s p en false acc := by
  unfold st
  rw [if_pos h]
  by_cases h2 : p + 1 < en
  · rw [if_pos h2]
  · rw [if_neg h2, if_neg (by decide), show p + 1 = en by omega]
theorem st_rem {s : ByteArray} {p en : Nat} {acc : List Wd} (hp : p < s.size) (h : ¬ p < en) (hc : bt s p ≠ 10) : st s (p + wi s p) en true acc = st s p en true acc := by
  unfold st
  have := wi_in hp
  rw [if_neg h, if_neg (by omega), if_pos rfl, if_pos rfl, wi_nNL hp hc]
theorem st_nl {s : ByteArray} {p en : Nat} {acc : List Wd} (h : ¬ p < en) (hc : bt s p = 10) : st s (p + 1) en false acc = st s p en true acc := by
  unfold st
  rw [if_neg h, if_neg (by omega), if_pos rfl, if_neg (by decide), rE_end (by rw [hc]; decide), sc_blk (a := p) (by rw [hc]; decide)]
theorem st_mark {s : ByteArray} {p en : Nat} {acc : List Wd} (h : ¬ p < en) (hc : bt s p = 35) : st s (p + 1) en true acc = st s p en false acc := by
  unfold st
  rw [if_neg h, if_neg (by omega), if_pos rfl, if_neg (by decide), sc_rem hc]
theorem st_blk {s : ByteArray} {p en : Nat} {acc : List Wd} (h : ¬ p < en) (hc : blk (bt s p) = true) : st s (p + 1) en false acc = st s p en false acc := by
  unfold st
  rw [if_neg h, if_neg (by omega), if_neg (by decide), if_neg (by decide), sc_blk (a := p) hc]
theorem st_wd {s : ByteArray} {p en : Nat} {acc : List Wd} (hp : p < s.size) (h : ¬ p < en) (h1 : blk (bt s p) = false) (h2 : bt s p ≠ 35) (h3 : (one s p).c = 0) :
    st s (p + 1) (one s p).e false (acc ++ [wdOf s p (one s p)]) = st s p en false acc := by
  have hg := (one_ok hp).gt
  have hR : st s p en false acc = sc s (one s p).e (acc ++ [wdOf s p (one s p)]) := by
    unfold st; rw [if_neg h, if_neg (by decide), sc_wd hp h1 h2 h3]
  rw [hR]; unfold st
  by_cases h4 : p + 1 < (one s p).e
  · rw [if_pos h4]
  · rw [if_neg h4, if_neg (by decide), show p + 1 = (one s p).e by omega]
theorem st_no {s : ByteArray} {p en : Nat} {acc : List Wd} (hp : p < s.size) (h : ¬ p < en) (h1 : blk (bt s p) = false) (h2 : bt s p ≠ 35) (h3 : (one s p).c ≠ 0) :
    st s p en false acc = .no (one s p).c p (s.extract p (one s p).e) := by
  unfold st
  rw [if_neg h, if_neg (by decide), sc_no hp h1 h2 h3]
theorem st_end {s : ByteArray} {p en : Nat} {rm : Bool} {acc : List Wd} (hp : ¬ p < s.size) (h : en ≤ s.size) : st s p en rm acc = .ok (acc ++ [wEnd s]) := by
  unfold st
  rw [if_neg (by omega)]
  split
  · rw [rE_end (by rw [bt_out hp]; exact nNL256), sc_end hp]
  · rw [sc_end hp]

/-- words that rise and stand in a text where they say -/
def Stand (s : ByteArray) : Nat → List Wd → Prop
  | _, [] => True
  | a, w :: l => a ≤ w.at' ∧ w.at' < s.size ∧ one s w.at' = ⟨w.k, w.at' + w.t.size, w.n, 0⟩ ∧ w.t = s.extract w.at' (w.at' + w.t.size) ∧ Stand s (w.at' + w.t.size) l
theorem size_ext {s : ByteArray} {a e : Nat} (h : e ≤ s.size) : (s.extract a e).size = e - a := by
  rw [ByteArray.size_extract, Nat.min_eq_left h]
theorem Stand.le {s : ByteArray} {a b : Nat} {l : List Wd} (h : Stand s a l) (hb : b ≤ a) : Stand s b l := by
  cases l with
  | nil => trivial
  | cons w l => exact ⟨by have := h.1; omega, h.2⟩
theorem scF_stand (s : ByteArray) : ∀ f a acc l, scF s f a acc = .ok l → ∃ ws, l = acc ++ ws ++ [wEnd s] ∧ Stand s a ws
  | 0, a, acc, l, h => ⟨[], by rw [scF] at h; rw [List.append_nil]; exact (Res.ok.inj h).symm, trivial⟩
  | f + 1, a, acc, l, h => by
    rw [scF] at h
    split at h
    · rename_i ha
      split at h
      · obtain ⟨ws, h1, h2⟩ := scF_stand s f _ _ _ h
        exact ⟨ws, h1, h2.le (by omega)⟩
      · split at h
        · obtain ⟨ws, h1, h2⟩ := scF_stand s f _ _ _ h
          exact ⟨ws, h1, h2.le (rE_ge _ _ _)⟩
        · split at h
          · rename_i hc
            obtain ⟨ws, h1, h2⟩ := scF_stand s f _ _ _ h
            have ok := one_ok ha
            have hz : (wdOf s a (one s a)).t.size = (one s a).e - a := size_ext ok.le
            have he : a + (wdOf s a (one s a)).t.size = (one s a).e := by rw [hz]; have := ok.gt; omega
            refine ⟨wdOf s a (one s a) :: ws, by rw [h1]; simp, Nat.le_refl _, ha, ?_, ?_, ?_⟩
            · show one s a = ⟨(one s a).k, a + (wdOf s a (one s a)).t.size, (one s a).n, 0⟩
              rw [he, ← hc]
            · show s.extract a (one s a).e = s.extract a (a + (wdOf s a (one s a)).t.size)
              rw [he]
            · show Stand s (a + (wdOf s a (one s a)).t.size) ws
              rw [he]; exact h2
          · exact absurd h (by simp)
    · exact ⟨[], by rw [List.append_nil]; exact (Res.ok.inj h).symm, trivial⟩
theorem all_stand {s : ByteArray} {l : List Wd} (h : all s = .ok l) : ∃ ws, l = ws ++ [wEnd s] ∧ Stand s 0 ws ∧ s.size ≤ 65536 := by
  unfold all at h
  split at h
  · exact absurd h (by simp)
  · obtain ⟨ws, h1, h2⟩ := scF_stand s _ _ _ _ h
    exact ⟨ws, by simpa using h1, h2, by omega⟩
end Go.Proofs.YtoncogkamlgjhaaGreatDoor
