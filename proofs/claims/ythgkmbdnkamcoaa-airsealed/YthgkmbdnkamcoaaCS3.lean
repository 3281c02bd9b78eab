/-
  Proved here: Sum of package crc answers 'crc' of the bytes, for every bytes that a slice holds; no old memory turns. No condition.
-/
import Derived.Test.YthgkmbdnkamcoaaCS2
import Derived.Deep.WholeRow
namespace Go.Proofs.Ythgkmbdnkamcoaa
open Go.RowKit Seal

theorem step_tab (n x : Nat) (hx : x < 256) : Ts 8 (n ^^^ x) = Ts 8 (n % 256 ^^^ x) ^^^ n / 256 := by
  have h1 : (n ^^^ x) % 256 = n % 256 ^^^ x := by
    have := @Nat.xor_mod_two_pow n x 8
    rw [show (2 : Nat) ^ 8 = 256 from rfl, Nat.mod_eq_of_lt hx] at this
    exact this
  have h2 : (n ^^^ x) / 256 = n / 256 := by
    apply Nat.eq_of_testBit_eq
    intro i
    rw [show (256 : Nat) = 2 ^ 8 from rfl, Nat.testBit_div_two_pow, Nat.testBit_div_two_pow, Nat.testBit_xor]
    rw [Nat.testBit_lt_two_pow (x := x) (i := i + 8) (Nat.lt_of_lt_of_le hx (by rw [show (256 : Nat) = 2 ^ 8 from rfl]; exact Nat.pow_le_pow_right (by omega) (by omega)))]
    simp
  rw [Ts8_tab, h1, h2]
theorem idx8 {n : Nat} {x : Int} (h0 : 0 ≤ x) (h1 : x < 256) : bits .xor .u8 ((n : Int) % 256) x = ((n % 256 ^^^ x.toNat : Nat) : Int) := by
  have := u8_xor ((n : Int) % 256) x (by omega) (by omega) h0 h1
  rw [this, show ((n : Int) % 256).toNat = n % 256 by omega]
theorem xor8 {p q : Nat} (hp : p < 4294967296) (hq : q < 4294967296) : bits .xor .u32 ((q : Int) / 256) (p : Int) = ((p ^^^ q / 256 : Nat) : Int) := by
  rw [Nat.xor_comm]; exact u32_xor_nat (q / 256) p (by omega) hp

theorem notR {m : Nat} (h : m < 4294967296) : bits .xor .u32 (m : Int) 4294967295 = ((m ^^^ ones : Nat) : Int) := u32_xor_nat m 4294967295 h (by omega)
theorem alc46 {ops : Array Oper} {rest : List Oper} {o : Oper} {a : Act} {w : World} {Q : Exit → Act → World → Prop} (ho : o.op = .alloc 76) (hw : Region.wanted o (yielded ops a.tmps) = true)
    (h : wpList Try.prog ops Q rest (a.put o.dst (.pointer (some ⟨w.heap.size, 0, none⟩))) (w.alloc (.cells (tr 0 0 fun _ => 0) 76))) : wpList Try.prog ops Q (o :: rest) a w := by
  unfold wpList
  rw [if_pos hw]
  refine Or.inl ?_
  unfold Oper.wp execOp
  simp only [ho, Instr.alloc, Sem.run_bind, (zero_of_info zero46).1, Result.andThen_ok, newVar, newRow, newObj, Value.cells, go_sem]
  exact h

set_option maxRecDepth 100000 in
set_option maxHeartbeats 1600000 in
/-- WHAT Sum ANSWERS. -/
theorem sum_any (B : Nat) (v : Value) (bs : List Int) (w : World) (hs : Sl B w v bs) (hB : B ≤ w.heap.size) :
    Calls Try.prog 26 #[v] w fun e w' => e = .returned (.int .u32 (crc bs)) ∧ Below w.heap.size w w' := by
  have hlen := hs.len
  have l1 : Below w.heap.size w (w.alloc (.cells (tr 0 0 fun _ => 0) 76)) := (Below.refl _ _).alloc (Nat.le_refl _) _
  have HL : Hid (Below w.heap.size w (w.alloc (.cells (tr 0 0 fun _ => 0) 76))) := l1
  have HT : Hid (St (w.alloc (.cells (tr 0 0 fun _ => 0) 76)) w.heap.size) := Or.inl (heap_alloc_new _ _)
  have HI : Hid (IsB bs) := hs.isB
  have HS : Hid (Sl B w v bs) := hs
  obtain ⟨ao, cap, rfl, _⟩ := hs
  clear l1
  go_enter Try.func26, Try.ntmps26
  go_wp2_with (refine alc46 rfl rfl ?_)
  go_loopw [4, 9] (fun n i wr => ∃ k : Nat, k ≤ bs.length ∧ i = .int .i64 k ∧ n = .int .u32 (fd ones (bs.take k) : Nat) ∧ St wr w.heap.size ∧ Below w.heap.size w wr) (fun _ i _ => bs.length - (intOf i).toNat)
  case atStart => exact ⟨0, by omega, rfl, rfl, HT.out, HL.out⟩
  case round =>
    obtain ⟨k, hk, rfl, rfl, hSt, hlow⟩ := hrel
    have hlt32 := take_lt HI.out k
    have HL2 : Hid (Below w.heap.size w wr) := hlow
    by_cases hlt : k < bs.length
    · have hS2 := HS.out.on (hlow.mono hB)
      obtain ⟨_, _, e, _, _, _, _, hcells⟩ := hS2
      simp only [Value.slice.injEq] at e
      obtain ⟨rfl, _, rfl⟩ := e
      obtain ⟨g, o, _, rfl, hcl⟩ := hcells (fun e => by subst e; simp at hlt)
      obtain ⟨x, hx⟩ : ∃ x, x = bs.getD k 0 := ⟨_, rfl⟩
      have hc := hcl k hlt
      have hx0 := HI.out.at k
      have hF := fd_take ones bs k hlt
      rw [← hx] at hc hx0 hF
      obtain ⟨m, hm⟩ : ∃ m, m = fd ones (bs.take k) := ⟨_, rfl⟩
      rw [← hm] at hlt32 hF ⊢
      rw [step_tab m x.toNat (by omega)] at hF
      have a1 := idx8 (n := m) hx0.1 hx0.2
      have hi : m % 256 ^^^ x.toNat < 256 := Nat.xor_lt_two_pow (n := 8) (by omega) (by omega)
      obtain ⟨j, hj⟩ : ∃ j, j = m % 256 ^^^ x.toNat := ⟨_, rfl⟩
      rw [← hj] at a1 hi hF
      have hj32 : Ts 8 j < 4294967296 := Ts_lt 8 (by omega)
      have a2 := xor8 hj32 hlt32
      have HC := of_any w.heap.size j wr hi hSt
      have HF : Hid (fd ones (bs.take (k + 1)) = Ts 8 j ^^^ m / 256) := hF
      obtain ⟨y, hy⟩ : ∃ y, y = Ts 8 j := ⟨_, rfl⟩
      rw [← hy] at a2 hj32 HF HC
      have HC' : Hid (Calls Try.prog 29 #[.pointer (some ⟨w.heap.size, 0, none⟩), .int .u8 (j : Nat)] wr fun e w' => e = .returned (.int .u32 (y : Nat)) ∧ Tk w' w.heap.size 1 0 full ∧ Below w.heap.size wr w') := HC
      clear hcl hcells hx hm hj hF hy HC hSt hlow HT HL
      go_wp2_with (go_at_call 29; refine (HC'.out).mono ?_; rintro e w2 ⟨rfl, hT2, hb2⟩)
      go_roundw
      case rel => exact ⟨k + 1, by omega, by go_num, by rw [HF.out], Or.inr hT2, HL2.out.trans hb2⟩
      case measure => simp [intOf]; omega
    · obtain rfl : k = bs.length := by omega
      have hn := notR hlt32
      rw [List.take_length] at hn hlt32 ⊢
      have HN : Hid (bits .xor .u32 ((fd ones bs : Nat) : Int) 4294967295 = ((fd ones bs ^^^ ones : Nat) : Int)) := hn
      clear hn hSt hlow
      go_wp2
      go_ret
      exact ⟨by unfold crc; rw [← HN.out]; rfl, HL2.out⟩
end Go.Proofs.Ythgkmbdnkamcoaa
