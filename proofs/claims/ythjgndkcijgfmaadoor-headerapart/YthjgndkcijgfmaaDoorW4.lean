/-
  Proved here: appendHex appends the lowest digits of a number, as many as asked, to a slice that the call owns. Conditions: the number is below 2 to 64, 1 to 16 digits are asked, the slice is short.
-/
import Derived.Test.YthjgndkcijgfmaaDoorW3
import Derived.Laws.BitsAllLaws
import Derived.Lib.UnsafeStr
import Derived.Lib.AppendStr
namespace Go.Proofs.YthjgndkcijgfmaaDoor
open Go.RowKit

abbrev Own (w : World) (B : Nat) (sv : Value) (l : List UInt8) : Prop := w.ownsRow B 5 1 sv l.length (Lib.byteCells l)
def hexd (d : Nat) : UInt8 := if d < 10 then UInt8.ofNat (48 + d) else UInt8.ofNat (87 + d)
def hexL (n : Nat) : Nat → List UInt8
  | 0 => []
  | c + 1 => hexd (n / 16 ^ c % 16) :: hexL n c
theorem hexL_length (n : Nat) : ∀ c, (hexL n c).length = c
  | 0 => rfl
  | c + 1 => by simp [hexL, hexL_length n c]
def hexDigits : ByteArray := ⟨#[48, 49, 50, 51, 52, 53, 54, 55, 56, 57, 97, 98, 99, 100, 101, 102]⟩

theorem idx_hex (d : Nat) (hd : d < 16) (w : World) : (Instr.index 9 (.string ⟨#[48, 49, 50, 51, 52, 53, 54, 55, 56, 57, 97, 98, 99, 100, 101, 102]⟩) (.int .u64 (d : Int))).run Tryd.prog w = .ok (.int .u8 ((hexd d).toNat : Int)) w := by
  have hd' : d = 0 ∨ d = 1 ∨ d = 2 ∨ d = 3 ∨ d = 4 ∨ d = 5 ∨ d = 6 ∨ d = 7 ∨ d = 8 ∨ d = 9 ∨ d = 10 ∨ d = 11 ∨ d = 12 ∨ d = 13 ∨ d = 14 ∨ d = 15 := by omega
  rcases hd' with rfl | rfl | rfl | rfl | rfl | rfl | rfl | rfl | rfl | rfl | rfl | rfl | rfl | rfl | rfl | rfl
  all_goals (show _ = _; kernel_rfl)

theorem and15 (x : Nat) (hx : x < 18446744073709551616) : bits .and .u64 (x : Int) 15 = ((x % 16 : Nat) : Int) := by
  have := u64_and_nat x 15 hx (by decide)
  rw [nat_mask4] at this
  exact this
theorem and255 (x : Nat) (hx : x < 18446744073709551616) : bits .and .u64 (x : Int) 255 = ((x % 256 : Nat) : Int) := by
  have := u64_and_nat x 255 hx (by decide)
  rw [nat_mask8] at this
  exact this
theorem own_snoc {w : World} {B : Nat} {v : Value} {l : List UInt8} {x : UInt8} (h : w.ownsRow B 5 1 v (l.length + 1) (Lib.byteCells l ++ [.int .u8 (x.toNat : Int)])) : Own w B v (l ++ [x]) := by
  have e : Lib.byteCells (l ++ [x]) = Lib.byteCells l ++ [.int .u8 (x.toNat : Int)] := by simp [Lib.byteCells]
  unfold Own
  rw [e, List.length_append]
  exact h
theorem own_str {w : World} {B : Nat} {v : Value} {l m : List UInt8} (h : w.ownsRow B 5 1 v (l.length + m.length) (Lib.byteCells l ++ Lib.byteCells m)) : Own w B v (l ++ m) := by
  have e : Lib.byteCells (l ++ m) = Lib.byteCells l ++ Lib.byteCells m := by simp [Lib.byteCells]
  unfold Own
  rw [e, List.length_append]
  exact h

theorem info5 : (Tryd.prog.info? 5).map (fun i => (i.zero, i.size, i.bytes)) = some (some (Value.int .u8 0), 1, 1) := by kernel_rfl
theorem info5' : ∃ i : TypeInfo, Tryd.prog.info? 5 = some i ∧ i.zero = some (.int .u8 0) ∧ i.size = 1 ∧ i.bytes = 1 := by
  have h := info5
  obtain ⟨i, hi, he⟩ := Option.map_eq_some_iff.1 h
  simp only [Prod.mk.injEq] at he
  exact ⟨i, hi, he.1, he.2.1, he.2.2⟩

set_option maxHeartbeats 800000 in
/-- appendHex. -/
theorem hex_any (B n cnt : Nat) (hn : n < 18446744073709551616) (hc1 : 1 ≤ cnt) (hc2 : cnt ≤ 16) (sv : Value) (l : List UInt8) (w : World) (hown : Own w B sv l) (hB : B ≤ w.heap.size) (hlim : l.length + cnt ≤ 1000000) :
    Calls Tryd.prog 24 #[sv, .int .u64 (n : Int), .int .i64 (cnt : Int)] w fun e w' => ∃ v', e = .returned v' ∧ Own w' B v' (l ++ hexL n cnt) ∧ Below B w w' := by
  obtain ⟨i0, hi, hz0, hz1, hz2⟩ := info5'
  go_enter Tryd.func24, Tryd.ntmps24
  go_wp2
  go_loopw [0, 7] (fun b i wr => ∃ (c : Nat) (l' : List UInt8) (s : Int), c ≤ cnt ∧ i = .int .i64 s ∧ s + 4 = 4 * (c : Int) ∧ Own wr B b l' ∧ l' ++ hexL n c = l ++ hexL n cnt ∧ Below B w wr) (fun _ i _ => (intOf i + 4).toNat)
  case atStart => exact ⟨cnt, l, _, Nat.le_refl _, rfl, by omega, hown, rfl, Below.refl _ _⟩
  case round =>
    obtain ⟨c, l', s, hc, rfl, hs, ho, heq, hbl⟩ := hrel
    cases c with
    | zero =>
      have s0 : s = -4 := by omega
      subst s0
      go_wp2
      go_ret
      exact ⟨_, rfl, by rw [← heq, hexL, List.append_nil]; exact ho, hbl⟩
    | succ c =>
      obtain rfl : s = 4 * (c : Int) := by omega
      have hdl : n / 16 ^ c % 16 < 16 := Nat.mod_lt _ (by decide)
      have hbits : bits .and .u64 ((n : Int) / 2 ^ (4 * c)) 15 = ((n / 16 ^ c % 16 : Nat) : Int) := by
        have e2 : (n : Int) / 2 ^ (4 * c) = ((n / 16 ^ c : Nat) : Int) := by
          rw [show (2 : Int) ^ (4 * c) = ((2 ^ (4 * c) : Nat) : Int) by norm_cast, Nat.pow_mul]; norm_cast
        rw [e2]
        exact and15 _ (Nat.lt_of_le_of_lt (Nat.div_le_self _ _) hn)
      have hexeq : hexL n (c + 1) = hexd (n / 16 ^ c % 16) :: hexL n c := rfl
      rw [hexeq] at heq; clear hexeq
      generalize n / 16 ^ c % 16 = d at *
      have hidx := fun W => idx_hex d hdl W
      have hg0 : (0 : Int) ≤ 4 * (c : Int) := by omega
      have hg1 : 4 * (c : Int) ≤ 60 := by omega
      have ho' : wr.ownsRow B 5 1 u0 l'.length (Lib.byteCells l') := ho
      have HEQ : Hid ((l' ++ [hexd d]) ++ hexL n c = l ++ hexL n cnt) := by
        show (l' ++ [hexd d]) ++ hexL n c = l ++ hexL n cnt
        rw [← heq, List.append_assoc]; rfl
      have hlen : l'.length ≤ 1000000 := by
        have := congrArg List.length heq
        simp [hexL_length] at this
        omega
      have hBr : B ≤ wr.heap.size := Nat.le_trans hB hbl.size
      clear heq hown
      go_wp2_with (at_builtin; refine wpList_append_own _ rfl _ _ 42 rfl B 5 i0 (.int .u8 0) 1 1 Tryd.underlying42 hi hz0 hz1 hz2 rfl (by decide) _ _ _ rfl (ho'.alloc _) ⟨wr.heap.size, 0, none⟩ 1 1 [.int .u8 ((hexd d).toNat : Int)] rfl rfl (cell_one_new _ _ _) (fun x hx => by simp at hx; subst hx; rfl) (by unfold maxLen; omega) (by omega) (by simp; omega) ?_)
      intro v' w' hown' hgrow _
      have hb' : Below B w w' := ((hbl.alloc hBr _).grown hgrow (by simp; omega) (fun k hk => (ho'.lt k hk).1))
      go_wp2
      go_roundw
      case rel => exact ⟨c, l' ++ [hexd d], _, by omega, rfl, by omega, own_snoc hown', HEQ.out, hb'⟩
      case measure => simp [intOf]; omega
end Go.Proofs.YthjgndkcijgfmaaDoor
