/-
  Proved here: how long a header's text can be, that the tables stay as they are while old memory does, and that Text returns the empty string where Check does not say 0. Condition: the three tables hold what they should.
-/
import Derived.Test.YthjgndkcijgfmaaDoorW6
namespace Go.Proofs.YthjgndkcijgfmaaDoor
open Go.RowKit

def nameL : Nat → List UInt8
  | 0 => [115, 114, 99] | 1 => [100, 115, 116] | 2 => [107, 105, 110, 100] | 3 => [118, 108, 97, 110] | 4 => [102, 114, 111, 109] | 5 => [116, 111]
  | 6 => [112, 114, 111, 116, 111] | 7 => [115, 112, 111, 114, 116] | 8 => [100, 112, 111, 114, 116] | 9 => [112, 111, 114, 116] | 10 => [115, 119, 105, 116, 99, 104] | _ => []
theorem nameL_len (k : Nat) : (nameL k).length ≤ 6 := by
  unfold nameL; split <;> simp
def sep (l : List UInt8) : List UInt8 := if l = [] then [] else l ++ [32]
def txtUpto (h : Nat → Int) : Nat → List UInt8
  | 0 => []
  | k + 1 => if h k = 0 then txtUpto h k else sep (txtUpto h k) ++ (nameL k ++ 61 :: numL k (h k).toNat)
def txtL (h : Nat → Int) : List UInt8 := txtUpto h 11

theorem dec_len20 (u : Nat) (hu : u < 18446744073709551616) : (Lib.decDigits u).length ≤ 20 := by
  by_cases h0 : u = 0
  · subst h0; rw [Lib.decDigits_one (by decide)]; simp
  · rw [Lib.decDigits_length]
    have := Lib.numDigits_eq u (by omega) hu
    split at this <;> omega
theorem macL_len (n : Nat) : ∀ c, (macL n c).length = 3 * c + 2
  | 0 => by simp [macL, hexL_length]
  | c + 1 => by simp [macL, hexL_length, macL_len n c]; omega
theorem ipL_len (n : Nat) : ∀ c, (ipL n c).length ≤ 4 * c + 3
  | 0 => dec_len _ (Nat.mod_lt _ (by decide))
  | c + 1 => by
    have := ipL_len n c
    have := dec_len _ (Nat.mod_lt (n / 256 ^ (c + 1)) (show 0 < 256 by decide))
    simp [ipL]; omega
theorem numL_len (k n : Nat) (hn : n < 18446744073709551616) : (numL k n).length ≤ 20 := by
  unfold numL
  split
  · rw [macL_len]; decide
  · rw [macL_len]; decide
  · simp [hexL_length]
  · have := ipL_len n 3; omega
  · have := ipL_len n 3; omega
  · exact dec_len20 n hn
theorem sep_len (l : List UInt8) : (sep l).length ≤ l.length + 1 := by unfold sep; split <;> simp
theorem txtUpto_len (h : Nat → Int) (hb : ∀ k, 0 ≤ h k ∧ h k < 18446744073709551616) : ∀ k, (txtUpto h k).length ≤ 100 * k
  | 0 => by simp [txtUpto]
  | k + 1 => by
    have ih := txtUpto_len h hb k
    have h1 := sep_len (txtUpto h k)
    have h2 := numL_len k (h k).toNat (by have := hb k; omega)
    have h3 := nameL_len k
    simp only [txtUpto]
    split
    · omega
    · simp; omega

structure Tabs (w : World) : Prop where
  wid : ∀ k : Nat, k < 11 → w.cell? ⟨0, k, none⟩ = some (.int .i64 (wid k))
  nam : ∀ k : Nat, k < 11 → w.cell? ⟨1, k, none⟩ = some (.string ⟨(nameL k).toArray⟩)
  pow : Lib.TabIs Tryd.prog w "internal/strconv.uint64pow10" .u64 Lib.pow10Tab
theorem lt_of_cell {w : World} {b o : Nat} {v : Value} (h : w.cell? ⟨b, o, none⟩ = some v) : b < w.heap.size := by
  rcases Nat.lt_or_ge b w.heap.size with h' | h'
  · exact h'
  · simp [World.cell?, Array.getElem?_eq_none h'] at h
theorem Tabs.on {w w' : World} (h : Tabs w) (hb : Below w.heap.size w w') : Tabs w' := by
  refine ⟨fun k hk => ?_, fun k hk => ?_, Lib.tabBelow_of_tabIs h.pow w' hb⟩
  · rw [hb.cell (p := ⟨0, k, none⟩) (lt_of_cell (h.wid k hk))]; exact h.wid k hk
  · rw [hb.cell (p := ⟨1, k, none⟩) (lt_of_cell (h.nam k hk))]; exact h.nam k hk

theorem chk_bad {h : Nat → Int} (e : hOk h = false) : chk h = 10 := by simp [chk, e]
theorem chk_ok {h : Nat → Int} (e : hOk h = true) : chk h = 0 := by simp [chk, e]

set_option maxHeartbeats 400000 in
theorem text_bad (h : Nat → Int) (w : World) (hT : Tabs w) (hno : hOk h = false) :
    Calls Tryd.prog 10 #[hv h] w fun e w' => e = .returned (.string ⟨#[]⟩) ∧ Below w.heap.size w w' := by
  have hb0 : Below w.heap.size w (w.alloc (.cells (hcs h) 24)) := (Below.refl _ _).alloc (Nat.le_refl _) _
  have hw0 := (hT.on hb0).wid
  have c := check_any h (w.alloc (.cells (hcs h) 24)) hw0
  rw [chk_bad hno] at c
  have C := Lib.hid c
  clear c hw0 hT
  go_enter Tryd.func10, Tryd.ntmps10
  go_wp2_with (go_at_call 8; refine (C.out).mono ?_; rintro e w1 ⟨rfl, hb1⟩)
  go_ret
  exact ⟨rfl, hb0.trans (hb1.mono (by simp))⟩
end Go.Proofs.YthjgndkcijgfmaaDoor
