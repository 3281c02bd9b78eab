/-
  Proved here: a block that holds a Once and a table of 256 numbers; the parts of a Once's slow road, one goroutine: its lock is taken and let go, its mark is stored. Conditions: the lock is free; no cell is frozen.
-/
import Derived.Test.YthgkmbdnkamcoaaCR
import Derived.Defers
import Derived.Laws.Pointers
import Derived.Laws.LoneSync
import Derived.RegionCalls
namespace Go.Proofs.Ythgkmbdnkamcoaa
open Go.RowKit Seal

/-- The cells of a Once (its mark d, its lock's state l) and a table f. -/
def tr (d l : Int) (f : Nat → Nat) : Array Value := Array.ofFn (n := 259) fun i => if i.val = 0 then .int .u32 d else if i.val = 1 then .int .i32 l else if i.val = 2 then .int .u32 0 else .int .u32 (f (i.val - 3) : Nat)
theorem tr_size (d l : Int) (f : Nat → Nat) : (tr d l f).size = 259 := by simp [tr]
theorem tr_get (d l : Int) (f : Nat → Nat) (i : Nat) (h : i < 259) : (tr d l f)[i]? = some (if i = 0 then .int .u32 d else if i = 1 then .int .i32 l else if i = 2 then .int .u32 0 else .int .u32 (f (i - 3) : Nat)) := by
  simp [tr, h]
theorem tr_ext {d l : Int} {f : Nat → Nat} {cs : Array Value} (hs : cs.size = 259) (h : ∀ i, i < 259 → cs[i]? = (tr d l f)[i]?) : cs = tr d l f := by
  apply Array.ext_getElem?
  intro i
  by_cases hi : i < 259
  · exact h i hi
  · rw [Array.getElem?_eq_none (by omega), Array.getElem?_eq_none (by rw [tr_size]; omega)]
theorem tr_set0 (d l x : Int) (f : Nat → Nat) : (tr d l f).setIfInBounds 0 (.int .u32 x) = tr x l f := by
  refine tr_ext (by simp [tr_size]) fun i hi => ?_
  rw [Array.getElem?_setIfInBounds, tr_get _ _ _ i hi, tr_get _ _ _ i hi]
  by_cases h : 0 = i
  · subst h; simp [tr_size]
  · rw [if_neg h]; simp [show ¬ i = 0 from fun e => h e.symm]
theorem tr_set1 (d l x : Int) (f : Nat → Nat) : (tr d l f).setIfInBounds 1 (.int .i32 x) = tr d x f := by
  refine tr_ext (by simp [tr_size]) fun i hi => ?_
  rw [Array.getElem?_setIfInBounds, tr_get _ _ _ i hi, tr_get _ _ _ i hi]
  by_cases h : 1 = i
  · subst h; simp [tr_size]
  · rw [if_neg h]
    by_cases h0 : i = 0
    · simp [h0]
    · simp [h0, show ¬ i = 1 from fun e => h e.symm]
def put (f : Nat → Nat) (k x : Nat) : Nat → Nat := fun i => if i = k then x else f i
theorem tr_setK (d l : Int) (f : Nat → Nat) (k x : Nat) (hk : k < 256) : (tr d l f).setIfInBounds (3 + k) (.int .u32 (x : Nat)) = tr d l (put f k x) := by
  refine tr_ext (by simp [tr_size]) fun i hi => ?_
  rw [Array.getElem?_setIfInBounds, tr_get _ _ _ i hi, tr_get _ _ _ i hi]
  by_cases h : 3 + k = i
  · subst h
    rw [if_pos rfl, if_pos (by rw [tr_size]; omega), if_neg (by omega), if_neg (by omega), if_neg (by omega)]
    simp [put]
  · rw [if_neg h]
    by_cases h0 : i = 0
    · simp [h0]
    · by_cases h1 : i = 1
      · simp [h1]
      · by_cases h2 : i = 2
        · simp [h2]
        · simp only [h0, h1, h2, if_false, put]
          rw [if_neg (by omega)]
/-- Block b holds them. -/
def Tk (w : World) (b : Nat) (d l : Int) (f : Nat → Nat) : Prop := w.heap[b]? = some (Obj.cells (tr d l f) 76 (0, 0))
theorem Tk.done {w : World} {b : Nat} {d l : Int} {f : Nat → Nat} (h : Tk w b d l f) : w.cell? ⟨b, 0, none⟩ = some (.int .u32 d) := by
  rw [cell_of_row w b 0 _ _ _ h, tr_get _ _ _ 0 (by omega)]; rfl
theorem Tk.lock {w : World} {b : Nat} {d l : Int} {f : Nat → Nat} (h : Tk w b d l f) : w.cell? ⟨b, 1, none⟩ = some (.int .i32 l) := by
  rw [cell_of_row w b 1 _ _ _ h, tr_get _ _ _ 1 (by omega)]; rfl
theorem Tk.cell {w : World} {b : Nat} {d l : Int} {f : Nat → Nat} (h : Tk w b d l f) (k : Nat) (hk : k < 256) : w.cell? ⟨b, 3 + k, none⟩ = some (.int .u32 (f k : Nat)) := by
  rw [cell_of_row w b (3 + k) _ _ _ h, tr_get _ _ _ (3 + k) (by omega), if_neg (by omega), if_neg (by omega), if_neg (by omega), Nat.add_sub_cancel_left]
theorem Tk.frozen {w : World} {b : Nat} {d l : Int} {f : Nat → Nat} (h : Tk w b d l f) (o : Nat) : w.frozen? ⟨b, o, none⟩ = false := by
  have : w.heap[b]? = some (Obj.cells (tr d l f) 76 (0, 0)) := h
  simp [World.frozen?, this]
theorem Tk.set0 {w : World} {b : Nat} {d l : Int} {f : Nat → Nat} (h : Tk w b d l f) (x : Int) : Tk (w.setCell ⟨b, 0, none⟩ (.int .u32 x)) b x l f := by
  unfold Tk; rw [heap_setCell_same w b 0 _ 76 _ h, tr_set0]
theorem Tk.set1 {w : World} {b : Nat} {d l : Int} {f : Nat → Nat} (h : Tk w b d l f) (x : Int) : Tk (w.setCell ⟨b, 1, none⟩ (.int .i32 x)) b d x f := by
  unfold Tk; rw [heap_setCell_same w b 1 _ 76 _ h, tr_set1]
theorem Tk.setK {w : World} {b : Nat} {d l : Int} {f : Nat → Nat} (h : Tk w b d l f) (k x : Nat) (hk : k < 256) : Tk (w.setCell ⟨b, 3 + k, none⟩ (.int .u32 (x : Nat))) b d l (put f k x) := by
  unfold Tk; rw [heap_setCell_same w b (3 + k) _ 76 _ h, tr_setK d l f k x hk]
theorem Tk.drew {w : World} {b : Nat} {d l : Int} {f : Nat → Nat} (h : Tk w b d l f) : Tk w.drew b d l f := h
theorem Tk.lt {w : World} {b : Nat} {d l : Int} {f : Nat → Nat} (h : Tk w b d l f) : b < w.heap.size := (Array.getElem?_eq_some_iff.1 h).1
theorem zero46 : (Try.prog.info? 76).map (fun i => (i.zero, i.size)) = some (some (.agg (tr 0 0 fun _ => 0)), 259) := by kernel_rfl

theorem disable (w : World) : (callFunc 43 #[]).run Try.prog w = .ok (.value (.tuple #[])) w := run_call_mark0 Try.func43 (by kernel_rfl) (by kernel_rfl) (by kernel_rfl) .disable (by kernel_rfl) w
theorem enable (w : World) : (callFunc 45 #[]).run Try.prog w = .ok (.value (.tuple #[])) w := run_call_mark0 Try.func45 (by kernel_rfl) (by kernel_rfl) (by kernel_rfl) .enable (by kernel_rfl) w
theorem acquire (a : Addr) (w : World) : (callFunc 46 #[.pointer (some a)]).run Try.prog w = .ok (.value (.tuple #[])) w := run_call_marked Try.func46 (by kernel_rfl) (by kernel_rfl) (by kernel_rfl) .acquire (by kernel_rfl) a w
theorem releaseMerge (a : Addr) (w : World) : (callFunc 48 #[.pointer (some a)]).run Try.prog w = .ok (.value (.tuple #[])) w := run_call_marked Try.func48 (by kernel_rfl) (by kernel_rfl) (by kernel_rfl) .releaseMerge (by kernel_rfl) a w

set_option maxRecDepth 100000 in
/-- The mark is stored, as a deferred call. -/
theorem store_deferred (a : Addr) (x : Value) (u : FrameMode) (w : World) (hc : w.cell? a = some x) (hz : w.frozen? a = false) :
    CallsD Try.prog 38 #[.pointer (some a), .bool true] u w fun e u' w' => u' = u ∧ (e = .returned (.tuple #[]) ∧ w' = w.drew.setCell a (.int .u32 1)) := by
  have hc' : w.drew.cell? a = some x := by go_simp
  have hz' : w.drew.frozen? a = false := by go_simp
  have hst := run_call_store (P := Try.prog) Try.func41 (by kernel_rfl) (by kernel_rfl) (by kernel_rfl) (by kernel_rfl) (k := .u32) (y := 1) hc' hz'
  go_enter_d Try.func38, Try.ntmps38
  go_wp2
  go_region_calls
  all_goals (go_end0; exact ⟨rfl, rfl⟩)
set_option maxRecDepth 100000 in
/-- The lock is let go, as a deferred call. -/
theorem unlock_deferred (a : Addr) (u : FrameMode) (w : World) (hc : w.cell? a = some (.int .i32 1)) (hz : w.frozen? a = false) :
    CallsD Try.prog 37 #[.pointer (some a)] u w fun e u' w' => u' = u ∧ (e = .returned (.tuple #[]) ∧ w' = w.setCell a (.int .i32 0)) := by
  have hd := disable
  have he := enable
  have hr := releaseMerge
  have hadd := run_call_add (P := Try.prog) Try.func49 (by kernel_rfl) (by kernel_rfl) (by kernel_rfl) .i32 (by kernel_rfl) (y := -1) (s := 0) hc hz (by simp [go_sem]; rfl)
  have hcv := run_convert_to_unsafe (P := Try.prog) (src := 89) (dst := 93) Try.underlying89 Try.underlying93 (by kernel_rfl) hc
  go_enter_d Try.func37, Try.ntmps37
  go_wp2
  go_end0
  go_wp2
  go_end0
  exact ⟨rfl, rfl⟩
set_option maxRecDepth 100000 in
/-- The lock, which is free, is taken. -/
theorem lock_free (a : Addr) (w : World) (hc : w.cell? a = some (.int .i32 0)) (hz : w.frozen? a = false) :
    Calls Try.prog 36 #[.pointer (some a)] w fun e w' => e = .returned (.tuple #[]) ∧ w' = w.setCell a (.int .i32 1) := by
  have hd := disable
  have he := enable
  have ha := acquire
  have hcas := run_call_cas_hit (P := Try.prog) Try.func44 (by kernel_rfl) (by kernel_rfl) (by kernel_rfl) .i32 (by kernel_rfl) (y := 1) hc hz
  have hc' : (w.setCell a (.int .i32 1)).cell? a = some (.int .i32 1) := World.cell?_setCell_same w a _ hc
  have hcv := run_convert_to_unsafe (P := Try.prog) (src := 89) (dst := 93) Try.underlying89 Try.underlying93 (by kernel_rfl) hc'
  go_enter Try.func36, Try.ntmps36
  go_wp2
  first | go_end0 | (simp only [Exit.inBlock, Exit.then]; refine bodyPost_ret (results_none rfl _ _ _) rfl ?_) | refine bodyPost_ret (results_none rfl _ _ _) rfl ?_
  go_wp2
  go_end0
  exact ⟨rfl, rfl⟩
end Go.Proofs.Ythgkmbdnkamcoaa
