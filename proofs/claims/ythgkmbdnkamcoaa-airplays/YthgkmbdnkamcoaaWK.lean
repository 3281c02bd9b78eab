/-
  Proved here: the statements' look at an air (wakes) says true. No condition.
-/
import Derived.Test.YthgkmbdnkamcoaaF6
import Derived.Lib.SlBytesConst
namespace Go.Proofs.Ythgkmbdnkamcoaa
open Go.RowKit

def wkA : Ar := ⟨[⟨[97, 98], false, 0⟩, ⟨[99, 100], false, 0⟩], []⟩
def wkB : Ar := ⟨[⟨[97, 98], false, 0⟩], [⟨[99, 100], false, 0⟩]⟩
def wkC : Ar := ⟨[⟨[97, 98], true, 1⟩], [⟨[99, 100], false, 0⟩]⟩
def wkD : Ar := ⟨[], [⟨[99, 100], false, 0⟩, ⟨[97, 98], true, 1⟩]⟩
theorem wk_put : putS (putS ar0 [97, 98]) [99, 100] = wkA := rfl
theorem wk_1 : doE wkA 0 3 = 0 ∧ doS wkA 0 3 = wkB := ⟨by decide, by kernel_rfl⟩
theorem wk_2 : doE wkB 3 1 = 0 ∧ doS wkB 3 1 = wkC := ⟨by decide, by kernel_rfl⟩
theorem wk_3 : doE wkC 3 0 = 0 ∧ doS wkC 3 0 = wkC := ⟨by decide, by kernel_rfl⟩
theorem wk_4 : doE wkC 0 0 = 0 ∧ doS wkC 0 0 = wkD := ⟨by decide, by kernel_rfl⟩
theorem wk_5 : doE wkD 0 0 = 5 ∧ doS wkD 0 0 = wkD := ⟨by decide, by kernel_rfl⟩
theorem wk_6 : doE wkD 5 0 = 2 ∧ doS wkD 5 0 = wkD := ⟨by decide, by kernel_rfl⟩
theorem wk_told : wkD.came.map told = [[99, 100], [97, 56]] := by decide
theorem AR.on {S T : Nat → Prop} {w w' : World} {v : Value} {a : Ar} (h : AR S w v a) (hb : Below w.heap.size w w') (hS : ∀ k, k < w.heap.size → S k → T k) : AR T w' v a := h.carry fun k hk hk2 => ⟨hS k hk hk2, hb.block k hk⟩
theorem Gave.cell {B b n : Nat} {w : World} {l : List (List Int)} (h : Gave B w b n l) (j : Nat) (hj : j < l.length) : ∃ x, w.cell? ⟨b, j, none⟩ = some x ∧ Owns B w x l[j] := by
  obtain ⟨cur, h1, h2, h3⟩ := h
  obtain ⟨x, hx, ho⟩ := h3 j hj
  exact ⟨x, by rw [cell_of_row w b j cur _ _ h1]; exact hx, ho⟩
theorem cv2 (w : World) (x y : Int) : (convert 31 31 (.slice (some ⟨w.heap.size, 0, none⟩) 2 2)).run Try.prog (w.alloc (.cells #[.int .u8 x, .int .u8 y] 5)) = .ok (.slice (some ⟨w.heap.size, 0, none⟩) 2 2) (w.alloc (.cells #[.int .u8 x, .int .u8 y] 5 (2, 3))) :=
  Lib.run_convert_bytes_const w 31 5 _ 2 2 Try.underlying31 Try.underlying5
theorem sl_mark (w : World) (x y : Int) (hx : 0 ≤ x ∧ x < 256) (hy : 0 ≤ y ∧ y < 256) : SlC (fun _ => True) (w.alloc (.cells #[.int .u8 x, .int .u8 y] 5 (2, 3))) (.slice (some ⟨w.heap.size, 0, none⟩) 2 2) [x, y] := by
  refine ⟨some ⟨w.heap.size, 0, none⟩, 2, rfl, by simp, by simp, ?_, (fun h => by cases h), fun _ => ⟨w.heap.size, 0, trivial, rfl, fun j hj => ?_⟩⟩
  · intro z hz
    simp at hz
    rcases hz with rfl | rfl
    · exact hx
    · exact hy
  · rw [cell_of_row _ _ _ _ _ _ (heap_alloc_new _ _)]
    have : j = 0 ∨ j = 1 := by simp at hj; omega
    rcases this with rfl | rfl <;> rfl
set_option maxHeartbeats 3200000 in
set_option maxRecDepth 100000 in
theorem wakes_any (w : World) : Calls Try.prog 9 #[] w fun e w' => e = .returned (.bool true) ∧ Below w.heap.size w w' := by
  have HDo : Hid (∀ (a : Ar) (x y : Int) (W : World) (v : Value), Below w.heap.size w W → AR (fun k => w.heap.size ≤ k) W v a → 0 ≤ x → y < 9223372036854775808 → a.row.length < 1000000 → a.came.length < 1000000 → Calls Try.prog 16 #[v, .int .u8 x, .int .i64 y] W fun e w' => e = .returned (.int .i64 (doE a x y)) ∧ Below w.heap.size w w' ∧ AR (fun k => w.heap.size ≤ k) w' v (doS a x y)) := by
    show ∀ _, _
    intro a x y W v hW hA h0 h1 h2 h3
    refine (do_any W v a x y hA (fun k hk => Nat.le_trans hW.size hk) h0 h1 h2 h3).mono ?_
    rintro e w' ⟨rfl, hO, hA'⟩
    exact ⟨rfl, hW.trans (hO.below fun k hk => hk), hA'⟩
  have HPut : Hid (∀ (a : Ar) (x y : Int) (W : World) (v : Value), Below w.heap.size w W → AR (fun k => w.heap.size ≤ k) W v a → 0 ≤ x ∧ x < 256 → 0 ≤ y ∧ y < 256 → a.row.length < 1000000 → Calls Try.prog 11 #[v, .slice (some ⟨W.heap.size, 0, none⟩) 2 2] (W.alloc (.cells #[.int .u8 x, .int .u8 y] 5 (2, 3))) fun e w' => e = .returned (.tuple #[]) ∧ Below w.heap.size w w' ∧ AR (fun k => w.heap.size ≤ k) w' v (putS a [x, y])) := by
    show ∀ _, _
    intro a x y W v hW hA hx hy h2
    have hb : Below W.heap.size W (W.alloc (.cells #[.int .u8 x, .int .u8 y] 5 (2, 3))) := (Below.refl _ _).alloc (Nat.le_refl _) _
    refine (put_any _ v a _ [x, y] (hA.on hb fun _ _ h => h) (fun k hk => Nat.le_trans (Nat.le_trans hW.size hb.size) hk) (sl_mark W x y hx hy) h2).mono ?_
    rintro e w' ⟨rfl, hO, hA'⟩
    exact ⟨rfl, (hW.trans (hb.mono hW.size)).trans (hO.below fun k hk => hk), hA'⟩
  go_enter Try.func9, Try.ntmps9
  go_upto_region 2 with (go_at_call 10; refine (new_any w).mono ?_; rintro e w1 ⟨v, rfl, hb, ha⟩; have HB1 := hid hb; have HA1 := hid ha; have HP1 := hid (HPut.out ar0 97 98 w1 v hb ha (by decide) (by decide) (by decide)); have hc1 := cv2 w1 97 98; clear hb ha)
  go_upto_region 3 with (go_at_call 11; refine (HP1.out).mono ?_; rintro e w2 ⟨rfl, hb, ha⟩; have HP2 := hid (HPut.out _ 99 100 w2 v hb ha (by decide) (by decide) (by decide)); have hc2 := cv2 w2 99 100; clear hb ha)
  go_upto_region 4 with (go_at_call 11; refine (HP2.out).mono ?_; rintro e w3 ⟨rfl, hb, ha⟩; have HD1 := hid (HDo.out wkA 0 3 w3 v hb ha (by decide) (by decide) (by decide) (by decide)); clear hb ha)
  rw [wk_1.1, wk_1.2] at HD1
  go_upto_region 6 with (first
    | (go_at_call 16; refine (HD1.out).mono ?_; rintro e w4 ⟨rfl, hb, ha⟩; clear HD1; have HD2 := hid (HDo.out wkB 3 1 w4 v hb ha (by decide) (by decide) (by decide) (by decide)); rw [wk_2.1, wk_2.2] at HD2; clear hb ha)
    | (go_at_call 16; refine (HD2.out).mono ?_; rintro e w5 ⟨rfl, hb, ha⟩; clear HD2; have HD3 := hid (HDo.out wkC 3 0 w5 v hb ha (by decide) (by decide) (by decide) (by decide)); rw [wk_3.1, wk_3.2] at HD3; clear hb ha)
    | (go_at_call 16; refine (HD3.out).mono ?_; rintro e w6 ⟨rfl, hb, ha⟩; clear HD3; have HD4 := hid (HDo.out wkC 0 0 w6 v hb ha (by decide) (by decide) (by decide) (by decide)); rw [wk_4.1, wk_4.2] at HD4; clear hb ha)
    | (go_at_call 16; refine (HD4.out).mono ?_; rintro e w7 ⟨rfl, hb, ha⟩; clear HD4; have HD5 := hid (HDo.out wkD 0 0 w7 v hb ha (by decide) (by decide) (by decide) (by decide)); rw [wk_5.1, wk_5.2] at HD5; clear hb ha)
    | (go_at_call 16; refine (HD5.out).mono ?_; rintro e w8 ⟨rfl, hb, ha⟩; clear HD5; have HD6 := hid (HDo.out wkD 5 0 w8 v hb ha (by decide) (by decide) (by decide) (by decide)); rw [wk_6.1, wk_6.2] at HD6; clear hb ha)
    | (go_at_call 16; refine (HD6.out).mono ?_; rintro e w9 ⟨rfl, hb, ha⟩; clear HD6; have HB9 := hid hb; have HA9 := hid ha; clear hb ha))
  clear HP1 HP2 HA1 HB1 HDo HPut hc1 hc2
  have HC1 := hid (came_any w9 v wkD HA9.out (fun k hk => Nat.le_trans HB9.out.size hk) (by decide))
  go_upto_region 7 with (go_at_call 13; refine (HC1.out).mono ?_; rintro e wa ⟨rfl, hO, hG, hA⟩
                         have hBa := HB9.out.trans (hO.below fun k hk => hk)
                         rw [wk_told] at hG
                         obtain ⟨y0, e0, o0⟩ := hG.cell 0 (by decide)
                         obtain ⟨y1, e1, o1⟩ := hG.cell 1 (by decide)
                         have hs9 := HB9.out.size
                         have HC2 := hid (came_any (S := fun k => w.heap.size ≤ k) wa v (cmS wkD) (hA.carry fun k _ h => ⟨h.1, rfl⟩) (fun k hk => Nat.le_trans hBa.size hk) (by decide))
                         obtain ⟨a0, k0, rfl⟩ := o0.slice
                         obtain ⟨a1, k1, rfl⟩ := o1.slice
                         have q0 : (convert 31 9 (.slice a0 2 k0)).run Try.prog wa = .ok (.string { data := #[99, 100] }) wa := conv_sl (SlC.own (S := fun _ => True) (bs := [99, 100]) o0 (by decide) (by simp [IsB]) (fun _ _ _ => trivial)).sl
                         have q1 : (convert 31 9 (.slice a1 2 k1)).run Try.prog wa = .ok (.string { data := #[97, 56] }) wa := conv_sl (SlC.own (S := fun _ => True) (bs := [97, 56]) o1 (by decide) (by simp [IsB]) (fun _ _ _ => trivial)).sl
                         have HBa := hid hBa
                         clear hO hG hA hBa o0 o1 hs9 HC1)
  go_wp2_with (go_at_call 13; refine (HC2.out).mono ?_; rintro e wb ⟨rfl, hO, hG, hA⟩; have HBb := hid (HBa.out.trans (hO.below fun k hk => hk)); clear hO hG hA HC2)
  go_ret
  exact ⟨rfl, HBb.out⟩
end Go.Proofs.Ythgkmbdnkamcoaa
