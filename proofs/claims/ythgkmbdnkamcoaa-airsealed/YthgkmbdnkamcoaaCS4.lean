/-
  Proved here: written answers a number's four bytes, the lowest first; bytes.Equal tells whether two slices hold the same bytes; bytes.Clone makes new bytes. Conditions: the slices hold bytes.
-/
import Derived.Test.YthgkmbdnkamcoaaCS3
import Derived.Test.YthgkmbdnkamcoaaCR
import Derived.Lib.SlBytesConst
import Derived.Lib.SmallJoins
import Derived.Deep.DeepCutAuto
import Derived.Deep.RegionWith
import Derived.Lib.SliceRun
namespace Go.Proofs.Ythgkmbdnkamcoaa
open Go.RowKit Seal

/-- The cells of a number's four bytes. -/
abbrev c4 (n : Nat) : Array Value := #[.int .u8 ((n : Int) % 256), .int .u8 ((n : Int) / 256 % 256), .int .u8 ((n : Int) / 65536 % 256), .int .u8 ((n : Int) / 16777216 % 256)]

set_option maxHeartbeats 400000 in
theorem written_any (n : Nat) (hn : n < 4294967296) (w : World) :
    Calls Try.prog 25 #[.int .u32 (n : Nat)] w fun e w' => e = .returned (.agg (c4 n)) ∧ Below w.heap.size w w' := by
  have e : (n : Int) / 16777216 % 256 = (n : Int) / 16777216 := by omega
  have HE : Hid (c4 n = #[.int .u8 ((n : Int) % 256), .int .u8 ((n : Int) / 256 % 256), .int .u8 ((n : Int) / 65536 % 256), .int .u8 ((n : Int) / 16777216)]) := by unfold c4; rw [e]; exact rfl
  clear e
  go_enter Try.func25, Try.ntmps25
  go_wp2
  refine bodyPost_ret (results_cell_row Try.results25 _ _ w.heap.size 57 _ (0, 0) _ rfl (heap_alloc_new _ _) Try.underlying57 rfl (by kernel_rfl)) rfl ⟨by rw [HE.out], (Below.refl _ _).alloc (Nat.le_refl _) _⟩

set_option maxHeartbeats 400000 in
theorem equal_any (B : Nat) (u v : Value) (xs bs : List Int) (w : World) (h1 : Sl B w u xs) (h2 : Sl B w v bs) :
    Calls Try.prog 27 #[u, v] w fun e w' => e = .returned (.bool (xs == bs)) ∧ w' = w := by
  have k1 := conv_sl h1
  have k2 := conv_sl h2
  have HQ : Hid (((str xs).toList == (str bs).toList) = (xs == bs)) := str_beq h1.isB h2.isB
  clear h1 h2
  go_enter Try.func27, Try.ntmps27
  go_wp2
  go_ret
  exact ⟨by rw [← HQ.out]; rfl, rfl⟩

set_option maxHeartbeats 400000 in
theorem bclone_any (B : Nat) (a : Addr) (cap : Nat) (bs : List Int) (w : World) (hs : Sl B w (.slice (some a) bs.length cap) bs) (hB : B ≤ w.heap.size) :
    Calls Try.prog 28 #[.slice (some a) bs.length cap] w fun e w' => ∃ v, e = .returned v ∧ Below w.heap.size w w' ∧ Owns w.heap.size w' v bs := by
  have l1 : Below w.heap.size w (w.alloc (.cells #[] 5)) := (Below.refl _ _).alloc (Nat.le_refl _) _
  have HL1 : Hid (Below w.heap.size w (w.alloc (.cells #[] 5))) := l1
  have HO : Hid (Owns w.heap.size (w.alloc (.cells #[] 5)) (.slice (some ⟨w.heap.size, 0, none⟩) 0 0) []) := owns_empty w (Nat.le_refl _)
  have HS1 : Hid (Sl B (w.alloc (.cells #[] 5)) (.slice (some a) bs.length cap) bs) := hs.on (l1.mono hB)
  have HK : Hid (bs.length ≤ 140737488355328) := hs.len
  have hq := Lib.run_eql_slice_nil (P := Try.prog) w 31 5 (some a) bs.length cap 0 0 Try.underlying31
  clear hs l1
  go_enter Try.func28, Try.ntmps28
  go_wp2_with (at_builtin; refine app22 (.tmp 5) (.tmp 6) rfl rfl rfl rfl HO.out HS1.out (by simp) (by have := HK.out; simp only [List.length_nil]; omega) ?_; intro v2 w2 X2)
  go_ret
  have X : Ext w.heap.size (w.alloc (.cells #[] 5)) (.slice (some ⟨w.heap.size, 0, none⟩) 0 0) w2 v2 bs := X2
  exact ⟨v2, rfl, HL1.out.trans (X.below HO.out (by simp)), X.own⟩
end Go.Proofs.Ythgkmbdnkamcoaa
