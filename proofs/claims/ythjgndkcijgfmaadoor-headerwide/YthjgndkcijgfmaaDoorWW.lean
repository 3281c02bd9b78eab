/-
  Proved here: HeaderWide's body returns true for every header of numbers below 2 to 64, every field number and every bit number; no old memory turns. Condition: the three tables hold what they should.
-/
import Derived.Test.YthjgndkcijgfmaaDoorWL
import Derived.RegionTactic
import Derived.OpenShut
namespace Go.Proofs.YthjgndkcijgfmaaDoor
open Go.RowKit

theorem pow_cast (m : Nat) : (2 : Int) ^ m = ((2 ^ m : Nat) : Int) := by norm_cast
theorem orBig (a : Int) (ha0 : 0 ≤ a) (ha1 : a < 18446744073709551616) (s m : Nat) (hs : s < 64) (hm : m ≤ s) : (2 : Int) ^ m ≤ bits .or .u64 a (IntKind.u64.wrap (2 ^ s)) := by
  have hp : (2 : Nat) ^ s < 18446744073709551616 := by
    have : (2 : Nat) ^ s < 2 ^ 64 := Nat.pow_lt_pow_right (by decide) hs
    simpa using this
  have hw : IntKind.u64.wrap (2 ^ s) = ((2 ^ s : Nat) : Int) := by
    rw [pow_cast s]
    generalize 2 ^ s = q at hp
    simp [IntKind.wrap, IntKind.bits, IntKind.signed]
    omega
  rw [hw]
  obtain ⟨n, rfl⟩ := Int.eq_ofNat_of_zero_le ha0
  rw [u64_or_nat n (2 ^ s) (by omega) hp, pow_cast m]
  have h1 : 2 ^ s ≤ n ||| 2 ^ s := Nat.right_le_or
  have h2 : 2 ^ m ≤ 2 ^ s := Nat.pow_le_pow_right (by decide) hm
  have h3 := Nat.le_trans h2 h1
  exact Int.ofNat_le.2 h3
theorem wide_bad (h : Nat → Int) (f : Nat) (x : Int) (hf : f < 11) (hx : (2 : Int) ^ (wid f).toNat ≤ x) : hOk (upd h f x) = false := by
  have hb : fldBad (upd h f x) f = true := by
    have hp : (0 : Int) < 2 ^ (wid f).toNat := Int.pow_pos (by decide)
    have h1 : 1 ≤ x / 2 ^ (wid f).toNat := by
      rw [Int.le_ediv_iff_mul_le hp]; omega
    have h2 : (x / 2 ^ (wid f).toNat != 0) = true := by rw [bne_iff_ne]; omega
    unfold fldBad
    rw [upd_same, h2]; rfl
  simp [hOk, okUpto_mono (upd h f x) 11 f hf hb]

set_option maxHeartbeats 1600000 in
theorem wide_m0 (h : Nat → Int) (hbd : ∀ k, 0 ≤ h k ∧ h k < 18446744073709551616) (f b : Int) (hf0 : 0 ≤ f) (hf1 : f ≤ 255) (hb0 : 0 ≤ b) (hb1 : b ≤ 255) (w : World) (hT : Tabs w) (hr : f % 11 = 0) :
    Calls Tryd.prog 6 #[hv h, .int .u8 f, .int .u8 b] w fun e w' => e = .returned (.bool true) ∧ Below w.heap.size w w' := by
  have hl : ∀ C, Below w.heap.size w (w.alloc (.cells C 24)) := fun C => (Below.refl _ _).alloc (Nat.le_refl _) _
  have hT0 := hT.on (hl (hcs h))
  have hx := orBig (h 0) (hbd 0).1 (hbd 0).2 (48 + b % 16).toNat 48 (by omega) (by omega)
  go_enter Tryd.func6, Tryd.ntmps6
  go_wp2_with fail
  go_fit (width_any 0 _ hT0.wid)
  rw [show widV 0 = 48 from rfl]
  rintro e w1 ⟨rfl, rfl⟩
  go_wp2
  go_region
  go_wp2_with fail
  clear hT0
  revert hx
  generalize bits .or .u64 (h 0) (IntKind.u64.wrap (2 ^ (48 + b % 16).toNat)) = x
  intro hx
  have hno := wide_bad h 0 x (by decide) hx
  have hl1 : Below w.heap.size w (w.alloc (.cells (hcs (upd h 0 x)) 24)).drew := (hl _).drew
  have hT1 := hT.on hl1
  go_fit (check_any (upd h 0 x) (w.alloc (.cells (hcs (upd h 0 x)) 24)).drew hT1.wid)
  rw [chk_bad hno]
  rintro e w2 ⟨rfl, hb2⟩
  have hT2 := hT1.on hb2
  have hl2 : Below w.heap.size w w2 := hl1.trans (hb2.mono hl1.size)
  have hh : w2.heap[w.heap.size]? = some (Obj.cells (hcs (upd h 0 x)) 24 (0, 0)) := by rw [hb2.block _ (by simp)]; exact heap_alloc_new _ _
  have hc := fun j hj => cell_h hh j hj
  have HNO : Hid (hOk (upd h 0 x) = false) := hno
  clear hb2 hT1 hl1 hl hh hno hx
  go_wp2_with fail
  go_fit (text_bad (upd h 0 x) w2 hT2 HNO.out)
  rintro e w3 ⟨rfl, hb3⟩
  have hT3 := hT2.on hb3
  have hl3 : Below w.heap.size w w3 := hl2.trans (hb3.mono hl2.size)
  clear hc hb3
  go_wp2_with fail
  go_fit (wakes_any w3 hT3)
  rintro e w4 ⟨rfl, hb4⟩
  go_wp2
  go_ret
  exact ⟨rfl, hl3.trans (hb4.mono hl3.size)⟩

set_option maxHeartbeats 1600000 in
theorem wide_m1 (h : Nat → Int) (hbd : ∀ k, 0 ≤ h k ∧ h k < 18446744073709551616) (f b : Int) (hf0 : 0 ≤ f) (hf1 : f ≤ 255) (hb0 : 0 ≤ b) (hb1 : b ≤ 255) (w : World) (hT : Tabs w) (hr : f % 11 = 1) :
    Calls Tryd.prog 6 #[hv h, .int .u8 f, .int .u8 b] w fun e w' => e = .returned (.bool true) ∧ Below w.heap.size w w' := by
  have hl : ∀ C, Below w.heap.size w (w.alloc (.cells C 24)) := fun C => (Below.refl _ _).alloc (Nat.le_refl _) _
  have hT0 := hT.on (hl (hcs h))
  have hx := orBig (h 1) (hbd 1).1 (hbd 1).2 (48 + b % 16).toNat 48 (by omega) (by omega)
  go_enter Tryd.func6, Tryd.ntmps6
  go_wp2_with fail
  go_fit (width_any 1 _ hT0.wid)
  rw [show widV 1 = 48 from rfl]
  rintro e w1 ⟨rfl, rfl⟩
  go_wp2
  go_region
  go_wp2_with fail
  clear hT0
  revert hx
  generalize bits .or .u64 (h 1) (IntKind.u64.wrap (2 ^ (48 + b % 16).toNat)) = x
  intro hx
  have hno := wide_bad h 1 x (by decide) hx
  have hl1 : Below w.heap.size w (w.alloc (.cells (hcs (upd h 1 x)) 24)).drew := (hl _).drew
  have hT1 := hT.on hl1
  go_fit (check_any (upd h 1 x) (w.alloc (.cells (hcs (upd h 1 x)) 24)).drew hT1.wid)
  rw [chk_bad hno]
  rintro e w2 ⟨rfl, hb2⟩
  have hT2 := hT1.on hb2
  have hl2 : Below w.heap.size w w2 := hl1.trans (hb2.mono hl1.size)
  have hh : w2.heap[w.heap.size]? = some (Obj.cells (hcs (upd h 1 x)) 24 (0, 0)) := by rw [hb2.block _ (by simp)]; exact heap_alloc_new _ _
  have hc := fun j hj => cell_h hh j hj
  have HNO : Hid (hOk (upd h 1 x) = false) := hno
  clear hb2 hT1 hl1 hl hh hno hx
  go_wp2_with fail
  go_fit (text_bad (upd h 1 x) w2 hT2 HNO.out)
  rintro e w3 ⟨rfl, hb3⟩
  have hT3 := hT2.on hb3
  have hl3 : Below w.heap.size w w3 := hl2.trans (hb3.mono hl2.size)
  clear hc hb3
  go_wp2_with fail
  go_fit (wakes_any w3 hT3)
  rintro e w4 ⟨rfl, hb4⟩
  go_wp2
  go_ret
  exact ⟨rfl, hl3.trans (hb4.mono hl3.size)⟩

set_option maxHeartbeats 1600000 in
theorem wide_m2 (h : Nat → Int) (hbd : ∀ k, 0 ≤ h k ∧ h k < 18446744073709551616) (f b : Int) (hf0 : 0 ≤ f) (hf1 : f ≤ 255) (hb0 : 0 ≤ b) (hb1 : b ≤ 255) (w : World) (hT : Tabs w) (hr : f % 11 = 2) :
    Calls Tryd.prog 6 #[hv h, .int .u8 f, .int .u8 b] w fun e w' => e = .returned (.bool true) ∧ Below w.heap.size w w' := by
  have hl : ∀ C, Below w.heap.size w (w.alloc (.cells C 24)) := fun C => (Below.refl _ _).alloc (Nat.le_refl _) _
  have hT0 := hT.on (hl (hcs h))
  have hx := orBig (h 2) (hbd 2).1 (hbd 2).2 (16 + b % 48).toNat 16 (by omega) (by omega)
  go_enter Tryd.func6, Tryd.ntmps6
  go_wp2_with fail
  go_fit (width_any 2 _ hT0.wid)
  rw [show widV 2 = 16 from rfl]
  rintro e w1 ⟨rfl, rfl⟩
  go_wp2
  go_region
  go_wp2_with fail
  clear hT0
  revert hx
  generalize bits .or .u64 (h 2) (IntKind.u64.wrap (2 ^ (16 + b % 48).toNat)) = x
  intro hx
  have hno := wide_bad h 2 x (by decide) hx
  have hl1 : Below w.heap.size w (w.alloc (.cells (hcs (upd h 2 x)) 24)).drew := (hl _).drew
  have hT1 := hT.on hl1
  go_fit (check_any (upd h 2 x) (w.alloc (.cells (hcs (upd h 2 x)) 24)).drew hT1.wid)
  rw [chk_bad hno]
  rintro e w2 ⟨rfl, hb2⟩
  have hT2 := hT1.on hb2
  have hl2 : Below w.heap.size w w2 := hl1.trans (hb2.mono hl1.size)
  have hh : w2.heap[w.heap.size]? = some (Obj.cells (hcs (upd h 2 x)) 24 (0, 0)) := by rw [hb2.block _ (by simp)]; exact heap_alloc_new _ _
  have hc := fun j hj => cell_h hh j hj
  have HNO : Hid (hOk (upd h 2 x) = false) := hno
  clear hb2 hT1 hl1 hl hh hno hx
  go_wp2_with fail
  go_fit (text_bad (upd h 2 x) w2 hT2 HNO.out)
  rintro e w3 ⟨rfl, hb3⟩
  have hT3 := hT2.on hb3
  have hl3 : Below w.heap.size w w3 := hl2.trans (hb3.mono hl2.size)
  clear hc hb3
  go_wp2_with fail
  go_fit (wakes_any w3 hT3)
  rintro e w4 ⟨rfl, hb4⟩
  go_wp2
  go_ret
  exact ⟨rfl, hl3.trans (hb4.mono hl3.size)⟩

set_option maxHeartbeats 1600000 in
theorem wide_m3 (h : Nat → Int) (hbd : ∀ k, 0 ≤ h k ∧ h k < 18446744073709551616) (f b : Int) (hf0 : 0 ≤ f) (hf1 : f ≤ 255) (hb0 : 0 ≤ b) (hb1 : b ≤ 255) (w : World) (hT : Tabs w) (hr : f % 11 = 3) :
    Calls Tryd.prog 6 #[hv h, .int .u8 f, .int .u8 b] w fun e w' => e = .returned (.bool true) ∧ Below w.heap.size w w' := by
  have hl : ∀ C, Below w.heap.size w (w.alloc (.cells C 24)) := fun C => (Below.refl _ _).alloc (Nat.le_refl _) _
  have hT0 := hT.on (hl (hcs h))
  have hx := orBig (h 3) (hbd 3).1 (hbd 3).2 (12 + b % 52).toNat 12 (by omega) (by omega)
  go_enter Tryd.func6, Tryd.ntmps6
  go_wp2_with fail
  go_fit (width_any 3 _ hT0.wid)
  rw [show widV 3 = 12 from rfl]
  rintro e w1 ⟨rfl, rfl⟩
  go_wp2
  go_region
  go_wp2_with fail
  clear hT0
  revert hx
  generalize bits .or .u64 (h 3) (IntKind.u64.wrap (2 ^ (12 + b % 52).toNat)) = x
  intro hx
  have hno := wide_bad h 3 x (by decide) hx
  have hl1 : Below w.heap.size w (w.alloc (.cells (hcs (upd h 3 x)) 24)).drew := (hl _).drew
  have hT1 := hT.on hl1
  go_fit (check_any (upd h 3 x) (w.alloc (.cells (hcs (upd h 3 x)) 24)).drew hT1.wid)
  rw [chk_bad hno]
  rintro e w2 ⟨rfl, hb2⟩
  have hT2 := hT1.on hb2
  have hl2 : Below w.heap.size w w2 := hl1.trans (hb2.mono hl1.size)
  have hh : w2.heap[w.heap.size]? = some (Obj.cells (hcs (upd h 3 x)) 24 (0, 0)) := by rw [hb2.block _ (by simp)]; exact heap_alloc_new _ _
  have hc := fun j hj => cell_h hh j hj
  have HNO : Hid (hOk (upd h 3 x) = false) := hno
  clear hb2 hT1 hl1 hl hh hno hx
  go_wp2_with fail
  go_fit (text_bad (upd h 3 x) w2 hT2 HNO.out)
  rintro e w3 ⟨rfl, hb3⟩
  have hT3 := hT2.on hb3
  have hl3 : Below w.heap.size w w3 := hl2.trans (hb3.mono hl2.size)
  clear hc hb3
  go_wp2_with fail
  go_fit (wakes_any w3 hT3)
  rintro e w4 ⟨rfl, hb4⟩
  go_wp2
  go_ret
  exact ⟨rfl, hl3.trans (hb4.mono hl3.size)⟩

set_option maxHeartbeats 1600000 in
theorem wide_m4 (h : Nat → Int) (hbd : ∀ k, 0 ≤ h k ∧ h k < 18446744073709551616) (f b : Int) (hf0 : 0 ≤ f) (hf1 : f ≤ 255) (hb0 : 0 ≤ b) (hb1 : b ≤ 255) (w : World) (hT : Tabs w) (hr : f % 11 = 4) :
    Calls Tryd.prog 6 #[hv h, .int .u8 f, .int .u8 b] w fun e w' => e = .returned (.bool true) ∧ Below w.heap.size w w' := by
  have hl : ∀ C, Below w.heap.size w (w.alloc (.cells C 24)) := fun C => (Below.refl _ _).alloc (Nat.le_refl _) _
  have hT0 := hT.on (hl (hcs h))
  have hx := orBig (h 4) (hbd 4).1 (hbd 4).2 (32 + b % 32).toNat 32 (by omega) (by omega)
  go_enter Tryd.func6, Tryd.ntmps6
  go_wp2_with fail
  go_fit (width_any 4 _ hT0.wid)
  rw [show widV 4 = 32 from rfl]
  rintro e w1 ⟨rfl, rfl⟩
  go_wp2
  go_region
  go_wp2_with fail
  clear hT0
  revert hx
  generalize bits .or .u64 (h 4) (IntKind.u64.wrap (2 ^ (32 + b % 32).toNat)) = x
  intro hx
  have hno := wide_bad h 4 x (by decide) hx
  have hl1 : Below w.heap.size w (w.alloc (.cells (hcs (upd h 4 x)) 24)).drew := (hl _).drew
  have hT1 := hT.on hl1
  go_fit (check_any (upd h 4 x) (w.alloc (.cells (hcs (upd h 4 x)) 24)).drew hT1.wid)
  rw [chk_bad hno]
  rintro e w2 ⟨rfl, hb2⟩
  have hT2 := hT1.on hb2
  have hl2 : Below w.heap.size w w2 := hl1.trans (hb2.mono hl1.size)
  have hh : w2.heap[w.heap.size]? = some (Obj.cells (hcs (upd h 4 x)) 24 (0, 0)) := by rw [hb2.block _ (by simp)]; exact heap_alloc_new _ _
  have hc := fun j hj => cell_h hh j hj
  have HNO : Hid (hOk (upd h 4 x) = false) := hno
  clear hb2 hT1 hl1 hl hh hno hx
  go_wp2_with fail
  go_fit (text_bad (upd h 4 x) w2 hT2 HNO.out)
  rintro e w3 ⟨rfl, hb3⟩
  have hT3 := hT2.on hb3
  have hl3 : Below w.heap.size w w3 := hl2.trans (hb3.mono hl2.size)
  clear hc hb3
  go_wp2_with fail
  go_fit (wakes_any w3 hT3)
  rintro e w4 ⟨rfl, hb4⟩
  go_wp2
  go_ret
  exact ⟨rfl, hl3.trans (hb4.mono hl3.size)⟩

set_option maxHeartbeats 1600000 in
theorem wide_m5 (h : Nat → Int) (hbd : ∀ k, 0 ≤ h k ∧ h k < 18446744073709551616) (f b : Int) (hf0 : 0 ≤ f) (hf1 : f ≤ 255) (hb0 : 0 ≤ b) (hb1 : b ≤ 255) (w : World) (hT : Tabs w) (hr : f % 11 = 5) :
    Calls Tryd.prog 6 #[hv h, .int .u8 f, .int .u8 b] w fun e w' => e = .returned (.bool true) ∧ Below w.heap.size w w' := by
  have hl : ∀ C, Below w.heap.size w (w.alloc (.cells C 24)) := fun C => (Below.refl _ _).alloc (Nat.le_refl _) _
  have hT0 := hT.on (hl (hcs h))
  have hx := orBig (h 5) (hbd 5).1 (hbd 5).2 (32 + b % 32).toNat 32 (by omega) (by omega)
  go_enter Tryd.func6, Tryd.ntmps6
  go_wp2_with fail
  go_fit (width_any 5 _ hT0.wid)
  rw [show widV 5 = 32 from rfl]
  rintro e w1 ⟨rfl, rfl⟩
  go_wp2
  go_region
  go_wp2_with fail
  clear hT0
  revert hx
  generalize bits .or .u64 (h 5) (IntKind.u64.wrap (2 ^ (32 + b % 32).toNat)) = x
  intro hx
  have hno := wide_bad h 5 x (by decide) hx
  have hl1 : Below w.heap.size w (w.alloc (.cells (hcs (upd h 5 x)) 24)).drew := (hl _).drew
  have hT1 := hT.on hl1
  go_fit (check_any (upd h 5 x) (w.alloc (.cells (hcs (upd h 5 x)) 24)).drew hT1.wid)
  rw [chk_bad hno]
  rintro e w2 ⟨rfl, hb2⟩
  have hT2 := hT1.on hb2
  have hl2 : Below w.heap.size w w2 := hl1.trans (hb2.mono hl1.size)
  have hh : w2.heap[w.heap.size]? = some (Obj.cells (hcs (upd h 5 x)) 24 (0, 0)) := by rw [hb2.block _ (by simp)]; exact heap_alloc_new _ _
  have hc := fun j hj => cell_h hh j hj
  have HNO : Hid (hOk (upd h 5 x) = false) := hno
  clear hb2 hT1 hl1 hl hh hno hx
  go_wp2_with fail
  go_fit (text_bad (upd h 5 x) w2 hT2 HNO.out)
  rintro e w3 ⟨rfl, hb3⟩
  have hT3 := hT2.on hb3
  have hl3 : Below w.heap.size w w3 := hl2.trans (hb3.mono hl2.size)
  clear hc hb3
  go_wp2_with fail
  go_fit (wakes_any w3 hT3)
  rintro e w4 ⟨rfl, hb4⟩
  go_wp2
  go_ret
  exact ⟨rfl, hl3.trans (hb4.mono hl3.size)⟩

set_option maxHeartbeats 1600000 in
theorem wide_m6 (h : Nat → Int) (hbd : ∀ k, 0 ≤ h k ∧ h k < 18446744073709551616) (f b : Int) (hf0 : 0 ≤ f) (hf1 : f ≤ 255) (hb0 : 0 ≤ b) (hb1 : b ≤ 255) (w : World) (hT : Tabs w) (hr : f % 11 = 6) :
    Calls Tryd.prog 6 #[hv h, .int .u8 f, .int .u8 b] w fun e w' => e = .returned (.bool true) ∧ Below w.heap.size w w' := by
  have hl : ∀ C, Below w.heap.size w (w.alloc (.cells C 24)) := fun C => (Below.refl _ _).alloc (Nat.le_refl _) _
  have hT0 := hT.on (hl (hcs h))
  have hx := orBig (h 6) (hbd 6).1 (hbd 6).2 (8 + b % 56).toNat 8 (by omega) (by omega)
  go_enter Tryd.func6, Tryd.ntmps6
  go_wp2_with fail
  go_fit (width_any 6 _ hT0.wid)
  rw [show widV 6 = 8 from rfl]
  rintro e w1 ⟨rfl, rfl⟩
  go_wp2
  go_region
  go_wp2_with fail
  clear hT0
  revert hx
  generalize bits .or .u64 (h 6) (IntKind.u64.wrap (2 ^ (8 + b % 56).toNat)) = x
  intro hx
  have hno := wide_bad h 6 x (by decide) hx
  have hl1 : Below w.heap.size w (w.alloc (.cells (hcs (upd h 6 x)) 24)).drew := (hl _).drew
  have hT1 := hT.on hl1
  go_fit (check_any (upd h 6 x) (w.alloc (.cells (hcs (upd h 6 x)) 24)).drew hT1.wid)
  rw [chk_bad hno]
  rintro e w2 ⟨rfl, hb2⟩
  have hT2 := hT1.on hb2
  have hl2 : Below w.heap.size w w2 := hl1.trans (hb2.mono hl1.size)
  have hh : w2.heap[w.heap.size]? = some (Obj.cells (hcs (upd h 6 x)) 24 (0, 0)) := by rw [hb2.block _ (by simp)]; exact heap_alloc_new _ _
  have hc := fun j hj => cell_h hh j hj
  have HNO : Hid (hOk (upd h 6 x) = false) := hno
  clear hb2 hT1 hl1 hl hh hno hx
  go_wp2_with fail
  go_fit (text_bad (upd h 6 x) w2 hT2 HNO.out)
  rintro e w3 ⟨rfl, hb3⟩
  have hT3 := hT2.on hb3
  have hl3 : Below w.heap.size w w3 := hl2.trans (hb3.mono hl2.size)
  clear hc hb3
  go_wp2_with fail
  go_fit (wakes_any w3 hT3)
  rintro e w4 ⟨rfl, hb4⟩
  go_wp2
  go_ret
  exact ⟨rfl, hl3.trans (hb4.mono hl3.size)⟩

set_option maxHeartbeats 1600000 in
theorem wide_m7 (h : Nat → Int) (hbd : ∀ k, 0 ≤ h k ∧ h k < 18446744073709551616) (f b : Int) (hf0 : 0 ≤ f) (hf1 : f ≤ 255) (hb0 : 0 ≤ b) (hb1 : b ≤ 255) (w : World) (hT : Tabs w) (hr : f % 11 = 7) :
    Calls Tryd.prog 6 #[hv h, .int .u8 f, .int .u8 b] w fun e w' => e = .returned (.bool true) ∧ Below w.heap.size w w' := by
  have hl : ∀ C, Below w.heap.size w (w.alloc (.cells C 24)) := fun C => (Below.refl _ _).alloc (Nat.le_refl _) _
  have hT0 := hT.on (hl (hcs h))
  have hx := orBig (h 7) (hbd 7).1 (hbd 7).2 (16 + b % 48).toNat 16 (by omega) (by omega)
  go_enter Tryd.func6, Tryd.ntmps6
  go_wp2_with fail
  go_fit (width_any 7 _ hT0.wid)
  rw [show widV 7 = 16 from rfl]
  rintro e w1 ⟨rfl, rfl⟩
  go_wp2
  go_region
  go_wp2_with fail
  clear hT0
  revert hx
  generalize bits .or .u64 (h 7) (IntKind.u64.wrap (2 ^ (16 + b % 48).toNat)) = x
  intro hx
  have hno := wide_bad h 7 x (by decide) hx
  have hl1 : Below w.heap.size w (w.alloc (.cells (hcs (upd h 7 x)) 24)).drew := (hl _).drew
  have hT1 := hT.on hl1
  go_fit (check_any (upd h 7 x) (w.alloc (.cells (hcs (upd h 7 x)) 24)).drew hT1.wid)
  rw [chk_bad hno]
  rintro e w2 ⟨rfl, hb2⟩
  have hT2 := hT1.on hb2
  have hl2 : Below w.heap.size w w2 := hl1.trans (hb2.mono hl1.size)
  have hh : w2.heap[w.heap.size]? = some (Obj.cells (hcs (upd h 7 x)) 24 (0, 0)) := by rw [hb2.block _ (by simp)]; exact heap_alloc_new _ _
  have hc := fun j hj => cell_h hh j hj
  have HNO : Hid (hOk (upd h 7 x) = false) := hno
  clear hb2 hT1 hl1 hl hh hno hx
  go_wp2_with fail
  go_fit (text_bad (upd h 7 x) w2 hT2 HNO.out)
  rintro e w3 ⟨rfl, hb3⟩
  have hT3 := hT2.on hb3
  have hl3 : Below w.heap.size w w3 := hl2.trans (hb3.mono hl2.size)
  clear hc hb3
  go_wp2_with fail
  go_fit (wakes_any w3 hT3)
  rintro e w4 ⟨rfl, hb4⟩
  go_wp2
  go_ret
  exact ⟨rfl, hl3.trans (hb4.mono hl3.size)⟩

set_option maxHeartbeats 1600000 in
theorem wide_m8 (h : Nat → Int) (hbd : ∀ k, 0 ≤ h k ∧ h k < 18446744073709551616) (f b : Int) (hf0 : 0 ≤ f) (hf1 : f ≤ 255) (hb0 : 0 ≤ b) (hb1 : b ≤ 255) (w : World) (hT : Tabs w) (hr : f % 11 = 8) :
    Calls Tryd.prog 6 #[hv h, .int .u8 f, .int .u8 b] w fun e w' => e = .returned (.bool true) ∧ Below w.heap.size w w' := by
  have hl : ∀ C, Below w.heap.size w (w.alloc (.cells C 24)) := fun C => (Below.refl _ _).alloc (Nat.le_refl _) _
  have hT0 := hT.on (hl (hcs h))
  have hx := orBig (h 8) (hbd 8).1 (hbd 8).2 (16 + b % 48).toNat 16 (by omega) (by omega)
  go_enter Tryd.func6, Tryd.ntmps6
  go_wp2_with fail
  go_fit (width_any 8 _ hT0.wid)
  rw [show widV 8 = 16 from rfl]
  rintro e w1 ⟨rfl, rfl⟩
  go_wp2
  go_region
  go_wp2_with fail
  clear hT0
  revert hx
  generalize bits .or .u64 (h 8) (IntKind.u64.wrap (2 ^ (16 + b % 48).toNat)) = x
  intro hx
  have hno := wide_bad h 8 x (by decide) hx
  have hl1 : Below w.heap.size w (w.alloc (.cells (hcs (upd h 8 x)) 24)).drew := (hl _).drew
  have hT1 := hT.on hl1
  go_fit (check_any (upd h 8 x) (w.alloc (.cells (hcs (upd h 8 x)) 24)).drew hT1.wid)
  rw [chk_bad hno]
  rintro e w2 ⟨rfl, hb2⟩
  have hT2 := hT1.on hb2
  have hl2 : Below w.heap.size w w2 := hl1.trans (hb2.mono hl1.size)
  have hh : w2.heap[w.heap.size]? = some (Obj.cells (hcs (upd h 8 x)) 24 (0, 0)) := by rw [hb2.block _ (by simp)]; exact heap_alloc_new _ _
  have hc := fun j hj => cell_h hh j hj
  have HNO : Hid (hOk (upd h 8 x) = false) := hno
  clear hb2 hT1 hl1 hl hh hno hx
  go_wp2_with fail
  go_fit (text_bad (upd h 8 x) w2 hT2 HNO.out)
  rintro e w3 ⟨rfl, hb3⟩
  have hT3 := hT2.on hb3
  have hl3 : Below w.heap.size w w3 := hl2.trans (hb3.mono hl2.size)
  clear hc hb3
  go_wp2_with fail
  go_fit (wakes_any w3 hT3)
  rintro e w4 ⟨rfl, hb4⟩
  go_wp2
  go_ret
  exact ⟨rfl, hl3.trans (hb4.mono hl3.size)⟩

set_option maxHeartbeats 1600000 in
theorem wide_m9 (h : Nat → Int) (hbd : ∀ k, 0 ≤ h k ∧ h k < 18446744073709551616) (f b : Int) (hf0 : 0 ≤ f) (hf1 : f ≤ 255) (hb0 : 0 ≤ b) (hb1 : b ≤ 255) (w : World) (hT : Tabs w) (hr : f % 11 = 9) :
    Calls Tryd.prog 6 #[hv h, .int .u8 f, .int .u8 b] w fun e w' => e = .returned (.bool true) ∧ Below w.heap.size w w' := by
  have hl : ∀ C, Below w.heap.size w (w.alloc (.cells C 24)) := fun C => (Below.refl _ _).alloc (Nat.le_refl _) _
  have hT0 := hT.on (hl (hcs h))
  have hx := orBig (h 9) (hbd 9).1 (hbd 9).2 (16 + b % 48).toNat 16 (by omega) (by omega)
  go_enter Tryd.func6, Tryd.ntmps6
  go_wp2_with fail
  go_fit (width_any 9 _ hT0.wid)
  rw [show widV 9 = 16 from rfl]
  rintro e w1 ⟨rfl, rfl⟩
  go_wp2
  go_region
  go_wp2_with fail
  clear hT0
  revert hx
  generalize bits .or .u64 (h 9) (IntKind.u64.wrap (2 ^ (16 + b % 48).toNat)) = x
  intro hx
  have hno := wide_bad h 9 x (by decide) hx
  have hl1 : Below w.heap.size w (w.alloc (.cells (hcs (upd h 9 x)) 24)).drew := (hl _).drew
  have hT1 := hT.on hl1
  go_fit (check_any (upd h 9 x) (w.alloc (.cells (hcs (upd h 9 x)) 24)).drew hT1.wid)
  rw [chk_bad hno]
  rintro e w2 ⟨rfl, hb2⟩
  have hT2 := hT1.on hb2
  have hl2 : Below w.heap.size w w2 := hl1.trans (hb2.mono hl1.size)
  have hh : w2.heap[w.heap.size]? = some (Obj.cells (hcs (upd h 9 x)) 24 (0, 0)) := by rw [hb2.block _ (by simp)]; exact heap_alloc_new _ _
  have hc := fun j hj => cell_h hh j hj
  have HNO : Hid (hOk (upd h 9 x) = false) := hno
  clear hb2 hT1 hl1 hl hh hno hx
  go_wp2_with fail
  go_fit (text_bad (upd h 9 x) w2 hT2 HNO.out)
  rintro e w3 ⟨rfl, hb3⟩
  have hT3 := hT2.on hb3
  have hl3 : Below w.heap.size w w3 := hl2.trans (hb3.mono hl2.size)
  clear hc hb3
  go_wp2_with fail
  go_fit (wakes_any w3 hT3)
  rintro e w4 ⟨rfl, hb4⟩
  go_wp2
  go_ret
  exact ⟨rfl, hl3.trans (hb4.mono hl3.size)⟩

set_option maxHeartbeats 1600000 in
theorem wide_m10 (h : Nat → Int) (hbd : ∀ k, 0 ≤ h k ∧ h k < 18446744073709551616) (f b : Int) (hf0 : 0 ≤ f) (hf1 : f ≤ 255) (hb0 : 0 ≤ b) (hb1 : b ≤ 255) (w : World) (hT : Tabs w) (hr : f % 11 = 10) :
    Calls Tryd.prog 6 #[hv h, .int .u8 f, .int .u8 b] w fun e w' => e = .returned (.bool true) ∧ Below w.heap.size w w' := by
  have hl : ∀ C, Below w.heap.size w (w.alloc (.cells C 24)) := fun C => (Below.refl _ _).alloc (Nat.le_refl _) _
  have hT0 := hT.on (hl (hcs h))
  have hx := orBig (h 10) (hbd 10).1 (hbd 10).2 (16 + b % 48).toNat 16 (by omega) (by omega)
  go_enter Tryd.func6, Tryd.ntmps6
  go_wp2_with fail
  go_fit (width_any 10 _ hT0.wid)
  rw [show widV 10 = 16 from rfl]
  rintro e w1 ⟨rfl, rfl⟩
  go_wp2
  go_region
  go_wp2_with fail
  clear hT0
  revert hx
  generalize bits .or .u64 (h 10) (IntKind.u64.wrap (2 ^ (16 + b % 48).toNat)) = x
  intro hx
  have hno := wide_bad h 10 x (by decide) hx
  have hl1 : Below w.heap.size w (w.alloc (.cells (hcs (upd h 10 x)) 24)).drew := (hl _).drew
  have hT1 := hT.on hl1
  go_fit (check_any (upd h 10 x) (w.alloc (.cells (hcs (upd h 10 x)) 24)).drew hT1.wid)
  rw [chk_bad hno]
  rintro e w2 ⟨rfl, hb2⟩
  have hT2 := hT1.on hb2
  have hl2 : Below w.heap.size w w2 := hl1.trans (hb2.mono hl1.size)
  have hh : w2.heap[w.heap.size]? = some (Obj.cells (hcs (upd h 10 x)) 24 (0, 0)) := by rw [hb2.block _ (by simp)]; exact heap_alloc_new _ _
  have hc := fun j hj => cell_h hh j hj
  have HNO : Hid (hOk (upd h 10 x) = false) := hno
  clear hb2 hT1 hl1 hl hh hno hx
  go_wp2_with fail
  go_fit (text_bad (upd h 10 x) w2 hT2 HNO.out)
  rintro e w3 ⟨rfl, hb3⟩
  have hT3 := hT2.on hb3
  have hl3 : Below w.heap.size w w3 := hl2.trans (hb3.mono hl2.size)
  clear hc hb3
  go_wp2_with fail
  go_fit (wakes_any w3 hT3)
  rintro e w4 ⟨rfl, hb4⟩
  go_wp2
  go_ret
  exact ⟨rfl, hl3.trans (hb4.mono hl3.size)⟩

/-- HeaderWide: whatever the header, the field and the bit. -/
theorem wide_any (h : Nat → Int) (hbd : ∀ k, 0 ≤ h k ∧ h k < 18446744073709551616) (f b : Int) (hf0 : 0 ≤ f) (hf1 : f ≤ 255) (hb0 : 0 ≤ b) (hb1 : b ≤ 255) (w : World) (hT : Tabs w) :
    Calls Tryd.prog 6 #[hv h, .int .u8 f, .int .u8 b] w fun e w' => e = .returned (.bool true) ∧ Below w.heap.size w w' := by
  have hr : f % 11 = 0 ∨ f % 11 = 1 ∨ f % 11 = 2 ∨ f % 11 = 3 ∨ f % 11 = 4 ∨ f % 11 = 5 ∨ f % 11 = 6 ∨ f % 11 = 7 ∨ f % 11 = 8 ∨ f % 11 = 9 ∨ f % 11 = 10 := by omega
  rcases hr with hr | hr | hr | hr | hr | hr | hr | hr | hr | hr | hr
  · exact wide_m0 h hbd f b hf0 hf1 hb0 hb1 w hT hr
  · exact wide_m1 h hbd f b hf0 hf1 hb0 hb1 w hT hr
  · exact wide_m2 h hbd f b hf0 hf1 hb0 hb1 w hT hr
  · exact wide_m3 h hbd f b hf0 hf1 hb0 hb1 w hT hr
  · exact wide_m4 h hbd f b hf0 hf1 hb0 hb1 w hT hr
  · exact wide_m5 h hbd f b hf0 hf1 hb0 hb1 w hT hr
  · exact wide_m6 h hbd f b hf0 hf1 hb0 hb1 w hT hr
  · exact wide_m7 h hbd f b hf0 hf1 hb0 hb1 w hT hr
  · exact wide_m8 h hbd f b hf0 hf1 hb0 hb1 w hT hr
  · exact wide_m9 h hbd f b hf0 hf1 hb0 hb1 w hT hr
  · exact wide_m10 h hbd f b hf0 hf1 hb0 hb1 w hT hr
end Go.Proofs.YthjgndkcijgfmaaDoor
