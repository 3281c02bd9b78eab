/-
  Proved here: appendNumber appends what 'numL' says for each of the eleven fields to a slice that the call owns; a slice that is owned becomes the string of its bytes. Conditions as in the text before.
-/
import Derived.Test.YthjgndkcijgfmaaDoorW5
import Derived.Laws.IdiomStrings
namespace Go.Proofs.YthjgndkcijgfmaaDoor
open Go.RowKit

def numL (k : Nat) (n : Nat) : List UInt8 :=
  match k with
  | 0 => macL n 5 | 1 => macL n 5 | 2 => [48, 120] ++ hexL n 4 | 4 => ipL n 3 | 5 => ipL n 3 | _ => Lib.decDigits n

theorem own_shape {w : World} {B : Nat} {v : Value} {l : List UInt8} (h : Own w B v l) : ∃ a c, v = .slice a l.length c := by
  obtain ⟨_, h | ⟨g, cap, cur, hv, _⟩⟩ := h
  · exact ⟨none, 0, by rw [h.1, h.2]⟩
  · exact ⟨_, _, hv⟩
theorem conv_own {w : World} {B : Nat} {v : Value} {l : List UInt8} (h : Own w B v l) : (convert 42 9 v).run Tryd.prog w = .ok (.string ⟨l.toArray⟩) w := by
  have h' := h
  obtain ⟨_, h1 | ⟨g, cap, cur, hv, _⟩⟩ := h
  · have hl : l = [] := List.length_eq_zero_iff.1 h1.2
    subst hl
    rw [h1.1, run_convert_bytes_string w 42 9 5 none 0 0 Tryd.underlying42 Tryd.underlying5 Tryd.underlying9]
    simp [Conv.bytesToString]
    rfl
  · subst hv
    refine run_convert_bytes_back w 42 9 5 ⟨g, 0, none⟩ cap l Tryd.underlying42 Tryd.underlying5 Tryd.underlying9 fun j hj => ?_
    exact h'.cells rfl j _ (by simp [Lib.byteCells, hj])

set_option maxHeartbeats 800000 in
theorem num_mac (B n k : Nat) (hk : k = 0 ∨ k = 1) (hn : n < 18446744073709551616) (sv : Value) (l : List UInt8) (w : World) (hown : Own w B sv l) (hB : B ≤ w.heap.size) (hlim : l.length ≤ 900000) :
    Calls Tryd.prog 18 #[sv, .int .i64 (k : Int), .int .u64 (n : Int)] w fun e w' => ∃ v', e = .returned v' ∧ Own w' B v' (l ++ numL k n) ∧ Below B w w' := by
  rcases hk with rfl | rfl
  all_goals
    simp only [numL]
    go_enter Tryd.func18, Tryd.ntmps18
    go_wp2_with (go_at_call 23; refine (mac_any B n hn sv l w hown hB hlim).mono ?_; rintro e w' ⟨v', rfl, ho, hb⟩)
    go_ret
    exact ⟨v', rfl, ho, hb⟩

set_option maxHeartbeats 800000 in
theorem num_ip (B n k : Nat) (hk : k = 4 ∨ k = 5) (hn : n < 18446744073709551616) (sv : Value) (l : List UInt8) (w : World) (hown : Own w B sv l) (hB : B ≤ w.heap.size) (hlim : l.length ≤ 900000) (htab : Pow B w) :
    Calls Tryd.prog 18 #[sv, .int .i64 (k : Int), .int .u64 (n : Int)] w fun e w' => ∃ v', e = .returned v' ∧ Own w' B v' (l ++ numL k n) ∧ Below B w w' := by
  rcases hk with rfl | rfl
  all_goals
    simp only [numL]
    go_enter Tryd.func18, Tryd.ntmps18
    go_wp2_with (go_at_call 25; refine (ip_any B n hn sv l w hown hB hlim htab).mono ?_; rintro e w' ⟨v', rfl, ho, hb⟩)
    go_ret
    exact ⟨v', rfl, ho, hb⟩

set_option maxHeartbeats 1600000 in
theorem num_dec (B n k : Nat) (hk : k = 3 ∨ k = 6 ∨ k = 7 ∨ k = 8 ∨ k = 9 ∨ k = 10) (hn : n < 18446744073709551616) (sv : Value) (l : List UInt8) (w : World) (hown : Own w B sv l) (hB : B ≤ w.heap.size) (hlim : l.length ≤ 900000) (htab : Pow B w) :
    Calls Tryd.prog 18 #[sv, .int .i64 (k : Int), .int .u64 (n : Int)] w fun e w' => ∃ v', e = .returned v' ∧ Own w' B v' (l ++ numL k n) ∧ Below B w w' := by
  rcases hk with rfl | rfl | rfl | rfl | rfl | rfl
  all_goals
    simp only [numL]
    go_enter Tryd.func18, Tryd.ntmps18
    go_wp2_with (go_at_call 26; refine (au_any B n hn sv l w hown hB (by omega) htab).mono ?_; rintro e w' ⟨v', rfl, ho, hb⟩)
    go_ret
    exact ⟨v', rfl, ho, hb⟩

set_option maxHeartbeats 800000 in
theorem num_hex (B n : Nat) (hn : n < 18446744073709551616) (sv : Value) (l : List UInt8) (w : World) (hown : Own w B sv l) (hB : B ≤ w.heap.size) (hlim : l.length ≤ 900000) :
    Calls Tryd.prog 18 #[sv, .int .i64 2, .int .u64 (n : Int)] w fun e w' => ∃ v', e = .returned v' ∧ Own w' B v' (l ++ numL 2 n) ∧ Below B w w' := by
  obtain ⟨i0, hi, hz0, hz1, hz2⟩ := info5'
  simp only [numL]
  go_enter Tryd.func18, Tryd.ntmps18
  go_wp2_with (at_builtin; refine Lib.wpList_append_own_string _ rfl _ _ 42 9 rfl B 5 i0 Tryd.underlying42 Tryd.underlying9 hi hz0 hz1 hz2 _ _ _ rfl hown ⟨#[48, 120]⟩ rfl (by show l.length + 2 ≤ maxLen; unfold maxLen; omega) (by show l.length + 2 ≤ _; omega) hB ?_)
  intro v1 w1 hown1 hgrow _
  have ho1 : Own w1 B v1 (l ++ [48, 120]) := own_str hown1
  have hb1 : Below B w w1 := (Below.refl _ _).grown hgrow hB (fun k hk => (hown.lt k hk).1)
  have hB1 : B ≤ w1.heap.size := Nat.le_trans hB hb1.size
  clear hown1
  go_wp2_with (go_at_call 24; refine (hex_any B n 4 hn (by decide) (by decide) _ _ _ ho1 hB1 (by simp; omega)).mono ?_; rintro e w' ⟨v', rfl, ho, hb⟩)
  go_ret
  exact ⟨v', rfl, by rw [List.append_assoc] at ho; exact ho, hb1.trans hb⟩

theorem num_any (B n k : Nat) (hk : k < 11) (hn : n < 18446744073709551616) (sv : Value) (l : List UInt8) (w : World) (hown : Own w B sv l) (hB : B ≤ w.heap.size) (hlim : l.length ≤ 900000) (htab : Pow B w) :
    Calls Tryd.prog 18 #[sv, .int .i64 (k : Int), .int .u64 (n : Int)] w fun e w' => ∃ v', e = .returned v' ∧ Own w' B v' (l ++ numL k n) ∧ Below B w w' := by
  by_cases h1 : k = 0 ∨ k = 1
  · exact num_mac B n k h1 hn sv l w hown hB hlim
  · by_cases h2 : k = 4 ∨ k = 5
    · exact num_ip B n k h2 hn sv l w hown hB hlim htab
    · by_cases h3 : k = 2
      · subst h3; exact num_hex B n hn sv l w hown hB hlim
      · exact num_dec B n k (by omega) hn sv l w hown hB hlim htab
end Go.Proofs.YthjgndkcijgfmaaDoor
