/-
  Proved here: Do of a Once that is not yet done calls fill, once; Do of one that is done does nothing; of answers a byte's eight steps, and behind it the Once is done. Conditions: the block is there, the lock free.
-/
import Derived.Test.YthgkmbdnkamcoaaCS1
import Derived.Deep.DeepCutAuto
namespace Go.Proofs.Ythgkmbdnkamcoaa
open Go.RowKit Seal

set_option maxRecDepth 100000 in
set_option maxHeartbeats 1600000 in
/-- The slow road: not yet done, the lock free. -/
theorem slow_any (b : Nat) (f : Nat → Nat) (w : World) (hT : Tk w b 0 0 f) :
    Calls Try.prog 33 #[.pointer (some ⟨b, 0, none⟩), .func (.func 31) #[.pointer (some ⟨b, 0, none⟩)] #[]] w fun e w' => e = .returned (.tuple #[]) ∧ Tk w' b 1 0 (upTo f 256) ∧ Below b w w' := by
  have hT1 : Tk (w.setCell ⟨b, 1, none⟩ (.int .i32 1)) b 0 1 f := hT.set1 1
  have hl := run_call_load (P := Try.prog) Try.func35 (by kernel_rfl) (by kernel_rfl) (by kernel_rfl) .u32 (by kernel_rfl) hT1.done
  have hnot : ∀ (x : Bool) (w : World), (Op.unary .not (.bool x)).run Try.prog w = .ok (.bool (!x)) w := fun _ _ => rfl
  have HT1 : Hid (Tk (w.setCell ⟨b, 1, none⟩ (.int .i32 1)) b 0 1 f) := hT1
  have HT : Hid (Tk w b 0 0 f) := hT
  have hL : Below b w (w.setCell ⟨b, 1, none⟩ (.int .i32 1)) := (Below.refl b w).setCell (p := ⟨b, 1, none⟩) (Nat.le_refl _) _
  have HL : Hid (Below b w (w.setCell ⟨b, 1, none⟩ (.int .i32 1))) := hL
  clear hT hT1 hL
  go_enter_defers Try.func33, Try.ntmps33
  go_wp2_with (first | (go_at_call 36; refine (lock_free ⟨b, 1, none⟩ _ HT.out.lock (HT.out.frozen _)).mono ?_; rintro e w' ⟨rfl, rfl⟩) | (go_at_call 32; go_in))
  refine (fill_any b 0 1 f _ HT1.out).mono ?_
  rintro e w2 ⟨rfl, hT2, hb2⟩
  have HT2 : Hid (Tk w2 b 0 1 (upTo f 256)) := hT2
  have hL2 : Hid (Below b w w2) := HL.out.trans hb2
  clear hT2 hb2
  go_wp2
  refine leaves_cons (f := 38) (args := #[.pointer (some ⟨b, 0, none⟩), .bool true]) (by simp) (by simp [go_sem]) ?_
  refine (store_deferred ⟨b, 0, none⟩ (.int .u32 0) .returning _ HT2.out.done (HT2.out.frozen _)).mono ?_
  rintro e u' w'' ⟨rfl, rfl, rfl⟩
  have hT3 : Tk (w2.drew.setCell ⟨b, 0, none⟩ (.int .u32 1)) b 1 1 (upTo f 256) := HT2.out.drew.set0 1
  refine leaves_cons (f := 37) (args := #[.pointer (some ⟨b, 1, none⟩)]) (by simp [settle]) (by simp [go_sem]) ?_
  refine (unlock_deferred ⟨b, 1, none⟩ _ _ hT3.lock (hT3.frozen _)).mono ?_
  rintro e u' w'' ⟨rfl, rfl, rfl⟩
  have hT4 := hT3.set1 0
  have hL4 : Below b w ((w2.drew.setCell ⟨b, 0, none⟩ (.int .u32 1)).setCell ⟨b, 1, none⟩ (.int .i32 0)) := (hL2.out.drew.setCell (p := ⟨b, 0, none⟩) (Nat.le_refl _) _).setCell (p := ⟨b, 1, none⟩) (Nat.le_refl _) _
  simp [Leaves, settle, results, Try.results33]
  exact ⟨hT4, hL4⟩

set_option maxRecDepth 100000 in
set_option maxHeartbeats 1600000 in
/-- Do, not yet done. -/
theorem do_first (b : Nat) (f : Nat → Nat) (w : World) (hT : Tk w b 0 0 f) :
    Calls Try.prog 30 #[.pointer (some ⟨b, 0, none⟩), .func (.func 31) #[.pointer (some ⟨b, 0, none⟩)] #[]] w fun e w' => e = .returned (.tuple #[]) ∧ Tk w' b 1 0 (upTo f 256) ∧ Below b w w' := by
  have hl := run_call_load (P := Try.prog) Try.func35 (by kernel_rfl) (by kernel_rfl) (by kernel_rfl) .u32 (by kernel_rfl) hT.done
  have hnot : ∀ (x : Bool) (w : World), (Op.unary .not (.bool x)).run Try.prog w = .ok (.bool (!x)) w := fun _ _ => rfl
  have HT : Hid (Tk w b 0 0 f) := hT
  clear hT
  go_enter Try.func30, Try.ntmps30
  go_wp2_with (first | (go_at_call 33; refine (slow_any b f _ HT.out).mono ?_; rintro e w' ⟨rfl, hT2, hb2⟩) | (go_at_call 32; go_in))
  go_end0
  exact ⟨rfl, hT2, hb2⟩


set_option maxRecDepth 100000 in
set_option maxHeartbeats 400000 in
/-- Do, done. -/
theorem do_done (b : Nat) (l : Int) (f : Nat → Nat) (x : Value) (w : World) (hT : Tk w b 1 l f) :
    Calls Try.prog 30 #[.pointer (some ⟨b, 0, none⟩), x] w fun e w' => e = .returned (.tuple #[]) ∧ w' = w := by
  have hl := run_call_load (P := Try.prog) Try.func35 (by kernel_rfl) (by kernel_rfl) (by kernel_rfl) .u32 (by kernel_rfl) hT.done
  have hnot : ∀ (x : Bool) (w : World), (Op.unary .not (.bool x)).run Try.prog w = .ok (.bool (!x)) w := fun _ _ => rfl
  clear hT
  go_enter Try.func30, Try.ntmps30
  go_wp2_with (go_at_call 32; go_in)
  go_end0
  exact ⟨rfl, rfl⟩

def none0 : Nat → Nat := fun _ => 0
def full : Nat → Nat := upTo none0 256
theorem full_at {k : Nat} (h : k < 256) : full k = Ts 8 k := by simp [full, upTo, h]
/-- The table's block, at its beginning or filled. -/
def St (w : World) (b : Nat) : Prop := Tk w b 0 0 none0 ∨ Tk w b 1 0 full

set_option maxRecDepth 100000 in
set_option maxHeartbeats 800000 in
/-- of. -/
theorem of_any (b k : Nat) (w : World) (hk : k < 256) (hS : St w b) :
    Calls Try.prog 29 #[.pointer (some ⟨b, 0, none⟩), .int .u8 (k : Nat)] w fun e w' => e = .returned (.int .u32 (Ts 8 k : Nat)) ∧ Tk w' b 1 0 full ∧ Below b w w' := by
  have HC : Hid (Calls Try.prog 30 #[.pointer (some ⟨b, 0, none⟩), .func (.func 31) #[.pointer (some ⟨b, 0, none⟩)] #[]] w fun e w' => e = .returned (.tuple #[]) ∧ Tk w' b 1 0 full ∧ Below b w w') := by
    rcases hS with h | h
    · exact do_first b none0 w h
    · refine (do_done b 0 full _ w h).mono ?_
      rintro e w' ⟨rfl, rfl⟩
      exact ⟨rfl, h, Below.refl _ _⟩
  have c0 : ∃ d : Int, w.cell? ⟨b, 0, none⟩ = some (.int .u32 d) := by
    rcases hS with h | h
    · exact ⟨_, h.done⟩
    · exact ⟨_, h.done⟩
  obtain ⟨d, c0⟩ := c0
  have hmf : ∀ (fn : Fn) (first cap : Array Value) (w : World), (Instr.makeFunc fn first cap).run Try.prog w = .ok (.func fn first cap) w := fun _ _ _ _ => rfl
  clear hS
  go_enter Try.func29, Try.ntmps29
  go_upto_region 2 with (go_at_call 30; refine (HC.out).mono ?_; rintro e w1 ⟨rfl, hT1, hb1⟩)
  have ct : w1.cell? ⟨b, 3 + k, none⟩ = some (.int .u32 (full k : Nat)) := hT1.cell k hk
  have c1 := hT1.done
  rw [full_at hk] at ct
  have HT1 : Hid (Tk w1 b 1 0 full) := hT1
  have HL : Hid (Below b w w1) := hb1
  clear hT1 hb1 HC c0
  obtain ⟨y, hy⟩ : ∃ y, y = Ts 8 k := ⟨_, rfl⟩
  rw [← hy] at ct
  have HY : Hid (y = Ts 8 k) := hy
  clear hy
  go_wp2
  go_ret
  exact ⟨by rw [← HY.out]; rfl, HT1.out, HL.out⟩
end Go.Proofs.Ythgkmbdnkamcoaa
