/-
  Proved here: head of the statements at 1, 2 and 3. No condition beyond that.
-/
import Derived.Test.YtpmdgockiblkaaaCN
import Derived.Laws.Bits64b
import Derived.Laws.Tables
import Derived.Laws.ResultCell
namespace Go.Proofs.Ytpmdgockiblkaaa
open Go.RowKit

def hf (n : Int) : Nat → Int := upd (upd zf 2 2048) 1 n
theorem wf_of {f : Nat → Int} (h : ∀ k, 0 ≤ f k ∧ f k ≤ 18446744073709551615) : Wf f := fun k => WalkArith.wf_u64 (h k)
theorem upd_bd {f : Nat → Int} {j : Nat} {x : Int} (h : ∀ k, 0 ≤ f k ∧ f k ≤ 18446744073709551615) (hx : 0 ≤ x ∧ x ≤ 18446744073709551615) : ∀ k, 0 ≤ upd f j x k ∧ upd f j x k ≤ 18446744073709551615 := fun k => by
  by_cases e : k = j
  · subst e; rw [upd_same]; exact hx
  · rw [upd_other _ _ _ _ e]; exact h k
theorem zf_bd : ∀ k, 0 ≤ zf k ∧ zf k ≤ 18446744073709551615 := fun k => ⟨Int.le_refl _, by show (0 : Int) ≤ _; omega⟩
def hN (n : Int) (h : 0 ≤ n ∧ n ≤ 3) : Hdr := ⟨hf n, wf_of (upd_bd (upd_bd zf_bd (by omega)) (by omega)), fun k hk => by
  unfold hf
  rw [upd_other _ _ _ _ (by omega), upd_other _ _ _ _ (by omega)]; rfl⟩
def h1 : Hdr := hN 1 (by omega)
def h2 : Hdr := hN 2 (by omega)
def h3 : Hdr := hN 3 (by omega)
theorem hN_ne {a b : Int} (ha : 0 ≤ a ∧ a ≤ 3) (hb : 0 ≤ b ∧ b ≤ 3) (hne : a ≠ b) : hN a ha ≠ hN b hb := fun e => hne (by
  have := congrArg (fun h : Hdr => h.f 1) e
  simpa [hN, hf, upd_same] using this)
theorem h12 : h1 ≠ h2 := hN_ne _ _ (by omega)
theorem h13 : h1 ≠ h3 := hN_ne _ _ (by omega)
theorem h23 : h2 ≠ h3 := hN_ne _ _ (by omega)
theorem resM (tmps : Array Value) (w : World) (g : Nat) (m : Nat → Int) (hp : tmps.getD 2 undef = .pointer (some ⟨g, 0, none⟩)) (hg : Blk w g 11 30 m) :
    (results Try.f19 tmps).run Try.prog w = .ok (hv m) w :=
  results_cell_row Try.results19 tmps w g 30 _ (0, 0) _ hp hg Try.underlying30 rfl (sizeH m)
set_option maxHeartbeats 1600000 in
set_option maxRecDepth 100000 in
theorem head_1 (w : World) : Calls Try.prog 19 #[.int .i64 1] w fun e w' => e = .returned (hv h1.f) ∧ Below w.heap.size w w' := by
  have b1 : bits .and .i64 1 255 = 1 := by decide +kernel
  have b2 : bits .and .i64 0 3 = 0 := by decide +kernel
  obtain ⟨W1, hW1⟩ : ∃ W1, W1 = (w.alloc (.cells #[.int .u64 0, .int .u64 0, .int .u64 0, .int .u64 0, .int .u64 0, .int .u64 0, .int .u64 0, .int .u64 0, .int .u64 0, .int .u64 0, .int .u64 0] 30)).alloc (.cells #[.int .u64 0, .int .u64 1, .int .u64 2048, .int .u64 0, .int .u64 0, .int .u64 0, .int .u64 0, .int .u64 0, .int .u64 0, .int .u64 0, .int .u64 0] 30) := ⟨_, rfl⟩
  have HB : Hid (Below w.heap.size w W1) := by show Below _ _ _; rw [hW1]; exact ((Below.refl _ _).alloc (Nat.le_refl _) _).alloc (by simp) _
  have HA : Hid (W1.heap[w.heap.size]? = some (.cells (row 11 zf) 30 (0, 0))) := by
    show _ = _
    rw [hW1, heap_alloc_old _ _ (by simp), heap_alloc_new]; rfl
  have HZ : Hid (W1.heap[w.heap.size + 1]? = some (.cells (row 11 h1.f) 30 (0, 0))) := by
    show _ = _
    have := heap_alloc_new (w.alloc (.cells #[.int .u64 0, .int .u64 0, .int .u64 0, .int .u64 0, .int .u64 0, .int .u64 0, .int .u64 0, .int .u64 0, .int .u64 0, .int .u64 0, .int .u64 0] 30)) (.cells #[.int .u64 0, .int .u64 1, .int .u64 2048, .int .u64 0, .int .u64 0, .int .u64 0, .int .u64 0, .int .u64 0, .int .u64 0, .int .u64 0, .int .u64 0] 30)
    rw [hW1]
    simp only [World.size_alloc] at this
    rw [this]; rfl
  have HW1 := hid hW1
  clear hW1
  go_enter Try.func19, Try.ntmps19
  go_upto_region 5 with fail
  rw [← HW1.out]
  clear HW1
  go_wp2_with (first
    | (refine ld24 (.tmp 3) rfl _ rfl rfl h1.f HZ.out ?_)
    | (refine stRow 30 (.tmp 2) (.tmp 14) rfl rfl w.heap.size (row 11 h1.f) rfl rfl 30 (row 11 zf) HA.out (sizeH _) (by rw [row_size, row_size]) (row_one _ _) ?_))
  refine bodyPost_ret (resM _ _ w.heap.size h1.f rfl ?_) rfl ?_
  · exact setRow_heap _ _ _ _ _ _ HA.out
  · exact ⟨rfl, below_setRow HB.out (Nat.le_refl _) _⟩
set_option maxHeartbeats 1600000 in
set_option maxRecDepth 100000 in
theorem head_2 (w : World) : Calls Try.prog 19 #[.int .i64 2] w fun e w' => e = .returned (hv h2.f) ∧ Below w.heap.size w w' := by
  have b1 : bits .and .i64 2 255 = 2 := by decide +kernel
  have b2 : bits .and .i64 0 3 = 0 := by decide +kernel
  obtain ⟨W1, hW1⟩ : ∃ W1, W1 = (w.alloc (.cells #[.int .u64 0, .int .u64 0, .int .u64 0, .int .u64 0, .int .u64 0, .int .u64 0, .int .u64 0, .int .u64 0, .int .u64 0, .int .u64 0, .int .u64 0] 30)).alloc (.cells #[.int .u64 0, .int .u64 2, .int .u64 2048, .int .u64 0, .int .u64 0, .int .u64 0, .int .u64 0, .int .u64 0, .int .u64 0, .int .u64 0, .int .u64 0] 30) := ⟨_, rfl⟩
  have HB : Hid (Below w.heap.size w W1) := by show Below _ _ _; rw [hW1]; exact ((Below.refl _ _).alloc (Nat.le_refl _) _).alloc (by simp) _
  have HA : Hid (W1.heap[w.heap.size]? = some (.cells (row 11 zf) 30 (0, 0))) := by
    show _ = _
    rw [hW1, heap_alloc_old _ _ (by simp), heap_alloc_new]; rfl
  have HZ : Hid (W1.heap[w.heap.size + 1]? = some (.cells (row 11 h2.f) 30 (0, 0))) := by
    show _ = _
    have := heap_alloc_new (w.alloc (.cells #[.int .u64 0, .int .u64 0, .int .u64 0, .int .u64 0, .int .u64 0, .int .u64 0, .int .u64 0, .int .u64 0, .int .u64 0, .int .u64 0, .int .u64 0] 30)) (.cells #[.int .u64 0, .int .u64 2, .int .u64 2048, .int .u64 0, .int .u64 0, .int .u64 0, .int .u64 0, .int .u64 0, .int .u64 0, .int .u64 0, .int .u64 0] 30)
    rw [hW1]
    simp only [World.size_alloc] at this
    rw [this]; rfl
  have HW1 := hid hW1
  clear hW1
  go_enter Try.func19, Try.ntmps19
  go_upto_region 5 with fail
  rw [← HW1.out]
  clear HW1
  go_wp2_with (first
    | (refine ld24 (.tmp 3) rfl _ rfl rfl h2.f HZ.out ?_)
    | (refine stRow 30 (.tmp 2) (.tmp 14) rfl rfl w.heap.size (row 11 h2.f) rfl rfl 30 (row 11 zf) HA.out (sizeH _) (by rw [row_size, row_size]) (row_one _ _) ?_))
  refine bodyPost_ret (resM _ _ w.heap.size h2.f rfl ?_) rfl ?_
  · exact setRow_heap _ _ _ _ _ _ HA.out
  · exact ⟨rfl, below_setRow HB.out (Nat.le_refl _) _⟩
set_option maxHeartbeats 1600000 in
set_option maxRecDepth 100000 in
theorem head_3 (w : World) : Calls Try.prog 19 #[.int .i64 3] w fun e w' => e = .returned (hv h3.f) ∧ Below w.heap.size w w' := by
  have b1 : bits .and .i64 3 255 = 3 := by decide +kernel
  have b2 : bits .and .i64 0 3 = 0 := by decide +kernel
  obtain ⟨W1, hW1⟩ : ∃ W1, W1 = (w.alloc (.cells #[.int .u64 0, .int .u64 0, .int .u64 0, .int .u64 0, .int .u64 0, .int .u64 0, .int .u64 0, .int .u64 0, .int .u64 0, .int .u64 0, .int .u64 0] 30)).alloc (.cells #[.int .u64 0, .int .u64 3, .int .u64 2048, .int .u64 0, .int .u64 0, .int .u64 0, .int .u64 0, .int .u64 0, .int .u64 0, .int .u64 0, .int .u64 0] 30) := ⟨_, rfl⟩
  have HB : Hid (Below w.heap.size w W1) := by show Below _ _ _; rw [hW1]; exact ((Below.refl _ _).alloc (Nat.le_refl _) _).alloc (by simp) _
  have HA : Hid (W1.heap[w.heap.size]? = some (.cells (row 11 zf) 30 (0, 0))) := by
    show _ = _
    rw [hW1, heap_alloc_old _ _ (by simp), heap_alloc_new]; rfl
  have HZ : Hid (W1.heap[w.heap.size + 1]? = some (.cells (row 11 h3.f) 30 (0, 0))) := by
    show _ = _
    have := heap_alloc_new (w.alloc (.cells #[.int .u64 0, .int .u64 0, .int .u64 0, .int .u64 0, .int .u64 0, .int .u64 0, .int .u64 0, .int .u64 0, .int .u64 0, .int .u64 0, .int .u64 0] 30)) (.cells #[.int .u64 0, .int .u64 3, .int .u64 2048, .int .u64 0, .int .u64 0, .int .u64 0, .int .u64 0, .int .u64 0, .int .u64 0, .int .u64 0, .int .u64 0] 30)
    rw [hW1]
    simp only [World.size_alloc] at this
    rw [this]; rfl
  have HW1 := hid hW1
  clear hW1
  go_enter Try.func19, Try.ntmps19
  go_upto_region 5 with fail
  rw [← HW1.out]
  clear HW1
  go_wp2_with (first
    | (refine ld24 (.tmp 3) rfl _ rfl rfl h3.f HZ.out ?_)
    | (refine stRow 30 (.tmp 2) (.tmp 14) rfl rfl w.heap.size (row 11 h3.f) rfl rfl 30 (row 11 zf) HA.out (sizeH _) (by rw [row_size, row_size]) (row_one _ _) ?_))
  refine bodyPost_ret (resM _ _ w.heap.size h3.f rfl ?_) rfl ?_
  · exact setRow_heap _ _ _ _ _ _ HA.out
  · exact ⟨rfl, below_setRow HB.out (Nat.le_refl _) _⟩
end Go.Proofs.Ytpmdgockiblkaaa
