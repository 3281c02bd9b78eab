/-
  Proved here: what the cursor's methods number and expect, and must, do: they take bytes off the front, or panic with ErrFrame; of the old memory the cursor's own cell alone turns. Conditions: at most 8 bytes are asked.
-/
import Derived.Test.YtioohgcaakcgaaaDoorS1
import Derived.OneCell
namespace Go.Proofs.YtioohgcaakcgaaaDoor
open Go.RowKit

/-- The panic with ErrFrame. -/
abbrev PC : List PanicEntry := [{ v := .iface 33 (.int .i64 30), recovered := false }]
/-- Block c is a cursor's; it has the bytes bs ahead, which lie in a block below c. -/
def Cur (w : World) (c : Nat) (bs : List Int) : Prop := ∃ v, w.heap[c]? = some (.cells #[v] 51 (0, 0)) ∧ Sl c w v bs
abbrev Gr (c : Nat) (w w' : World) : Prop := w.grownBy w' (some c)
theorem Gr.refl (c : Nat) (w : World) : Gr c w w := World.grownBy.refl _ _
theorem Gr.trans {c : Nat} {a b d : World} (h : Gr c a b) (k : Gr c b d) : Gr c a d :=
  ⟨k.os.trans h.os, k.tape.trans h.tape, k.output.trans h.output, Nat.le_trans h.size k.size, fun i hi hne => (k.block i (Nat.lt_of_lt_of_le hi h.size) hne).trans (h.block i hi hne)⟩
theorem Gr.below {c : Nat} {w w' : World} (h : Gr c w w') (hc : c ≤ w.heap.size) : Below c w w' :=
  ⟨h.os, h.tape, h.output, h.size, fun k hk => h.block k (by omega) (by simp; omega)⟩
theorem Gr.of_below {c : Nat} {w w' : World} (h : Below w.heap.size w w') : Gr c w w' :=
  ⟨h.os, h.tape, h.output, h.size, fun k hk _ => h.block k hk⟩
theorem Gr.alloc {c : Nat} {w w' : World} (h : Gr c w w') (o : Obj) : Gr c w (w'.alloc o) := h.trans (World.grownBy_alloc _ _ _)
theorem Gr.blk {c : Nat} {w w' : World} {b n t : Nat} {f : Nat → Int} (h : Gr c w w') (hb : Blk w b n t f) (hne : b ≠ c) : Blk w' b n t f := by
  unfold Blk; rw [h.block b hb.lt (by simpa using hne)]; exact hb
theorem Gr.pblk {c : Nat} {w w' : World} {b : Nat} {f : Nat → Int} {v : Value} (h : Gr c w w') (hb : PBlk w b f v) (hne : b ≠ c) : PBlk w' b f v := by
  unfold PBlk; rw [h.block b hb.lt (by simpa using hne)]; exact hb
theorem Gr.tab {c : Nat} {w w' : World} (h : Gr c w w') (ht : Tab w) (hc : 0 < c) : Tab w' := fun k hk => by
  rw [World.cell?_of_block (w := w) (a := ⟨0, k, none⟩) (h.block 0 ht.pos (by simp; omega))]; exact ht k hk
theorem Cur.lt {w : World} {c : Nat} {bs : List Int} (h : Cur w c bs) : c < w.heap.size := by
  obtain ⟨v, h, _⟩ := h
  exact (Array.getElem?_eq_some_iff.1 h).1
theorem Cur.isB {w : World} {c : Nat} {bs : List Int} (h : Cur w c bs) : IsB bs := by
  obtain ⟨v, _, h⟩ := h
  exact h.isB
theorem Cur.on {w w' : World} {c : Nat} {bs : List Int} (h : Cur w c bs) (hb : Below w.heap.size w w') : Cur w' c bs := by
  have hl := h.lt
  obtain ⟨v, h1, h2⟩ := h
  exact ⟨v, by rw [hb.block c hl]; exact h1, h2.on (hb.mono (Nat.le_of_lt hl))⟩
theorem Cur.alloc {w : World} {c : Nat} {bs : List Int} (h : Cur w c bs) (o : Obj) : Cur (w.alloc o) c bs := h.on ((Below.refl _ _).alloc (Nat.le_refl _) _)
theorem Cur.setCell {w : World} {c b j : Nat} {bs : List Int} (h : Cur w c bs) (u : Value) (hb : c < b) : Cur (w.setCell ⟨b, j, none⟩ u) c bs := by
  obtain ⟨v, h1, h2⟩ := h
  exact ⟨v, by rw [Below.heap_setCell _ _ _ _ (by simp; omega)]; exact h1, h2.on ((Below.refl _ _).setCell (by simp; omega) _)⟩
theorem Cur.setRow {w : World} {c b : Nat} {bs : List Int} (h : Cur w c bs) (cs : Array Value) (hb : c < b) : Cur (w.setRow b cs) c bs := by
  obtain ⟨v, h1, h2⟩ := h
  exact ⟨v, by rw [setRow_other w b c cs (by omega)]; exact h1, h2.on (below_setRow (Below.refl _ _) (by omega) _)⟩

theorem must_true (w : World) : Calls Tryd.prog 27 #[.bool true] w fun e w' => e = .returned (.tuple #[]) ∧ w' = w := by
  go_enter Tryd.func27, Tryd.ntmps27
  go_wp2
  first | go_end0 | refine bodyPost_ret (results_none rfl _ _ _) rfl ?_
  exact ⟨rfl, rfl⟩
theorem must_false (w : World) : Calls Tryd.prog 27 #[.bool false] w fun e w' => e = .panicked PC ∧ w' = w := by
  go_enter Tryd.func27, Tryd.ntmps27
  go_wp2
  exact ⟨rfl, rfl, rfl⟩
theorem must_any (t : Bool) (w : World) : Calls Tryd.prog 27 #[.bool t] w fun e w' => e = (if t then .returned (.tuple #[]) else .panicked PC) ∧ w' = w := by
  cases t
  · exact must_false w
  · exact must_true w
theorem num_take (bs : List Int) (j : Nat) (h : j < bs.length) : num (bs.take (j + 1)) = num (bs.take j) * 256 + bs.getD j 0 := by
  rw [List.take_add_one, List.getElem?_eq_getElem h]
  rw [show (some bs[j]).toList = [bs[j]] from rfl, num_snoc, List.getD_eq_getElem?_getD, List.getElem?_eq_getElem h]
  rfl
theorem num_take_bd {bs : List Int} (hB : IsB bs) (j : Nat) (h : j ≤ 7) : 0 ≤ num (bs.take j) ∧ num (bs.take j) < 72057594037927936 := by
  have h1 := num_bd (hB.take j)
  have h2 : (bs.take j).length ≤ 7 := by simp; omega
  have h3 : (2 : Int) ^ (8 * (bs.take j).length) ≤ 2 ^ 56 := by
    have : 8 * (bs.take j).length ≤ 56 := by omega
    exact_mod_cast Nat.pow_le_pow_right (by decide : 0 < 2) this
  have h4 : (2 : Int) ^ 56 = 72057594037927936 := by decide
  omega

set_option maxHeartbeats 400000 in
/-- number, where there are too few bytes. -/
theorem number_short (c k : Nat) (bs : List Int) (w : World) (hc : Cur w c bs) (hk : bs.length < k) :
    Calls Tryd.prog 37 #[.pointer (some ⟨c, 0, none⟩), .int .i64 k] w fun e w' => e = .panicked PC ∧ w' = w := by
  obtain ⟨v, h1, ao, cap, rfl, h2, h3, _, _, _⟩ := hc
  have c0 := cell_of_one h1
  have hd : decide (k ≤ bs.length) = false := by simpa using hk
  go_enter Tryd.func37, Tryd.ntmps37
  go_wp2_with (go_at_call 27; refine (must_false _).mono ?_; rintro e w' ⟨rfl, rfl⟩)
  exact ⟨rfl, rfl, rfl⟩

/-- The cursor behind k bytes. -/
theorem cur_set {w : World} {c b o cap k : Nat} {bs : List Int} {ad : Addr} (hh : w.heap[c]? = some (.cells #[.slice (some ⟨b, o, none⟩) bs.length cap] 51 (0, 0)))
    (hcl : ∀ j, j < bs.length → w.cell? ⟨b, o + j, none⟩ = some (.int .u8 (bs.getD j 0))) (hB : IsB bs) (hb : b < c) (h2 : bs.length ≤ cap) (h3 : bs.length ≤ 140737488355328) (hk : k ≤ bs.length) (had : k < bs.length → ad = ⟨b, o + k, none⟩) :
    Gr c w (w.setCell ⟨c, 0, none⟩ (.slice (some ad) (bs.length - k) (cap - k))) ∧ Cur (w.setCell ⟨c, 0, none⟩ (.slice (some ad) (bs.length - k) (cap - k))) c (bs.drop k) := by
  refine ⟨⟨rfl, rfl, rfl, by simp [World.setCell], fun i _ hne => Below.heap_setCell _ _ _ _ (by simpa using hne)⟩, _, one_setCell hh, ?_⟩
  refine ⟨_, cap - k, by rw [List.length_drop], by rw [List.length_drop]; omega, by rw [List.length_drop]; omega, hB.drop k, (fun h => by cases h), fun hne => ?_⟩
  have hlt : k < bs.length := by
    rcases Nat.lt_or_ge k bs.length with h | h
    · exact h
    · exact absurd (List.drop_of_length_le h) hne
  refine ⟨b, o + k, hb, by rw [had hlt], fun j hj => ?_⟩
  rw [List.length_drop] at hj
  rw [World.cell?_of_block (w := w) (a := ⟨b, o + k + j, none⟩) (Below.heap_setCell _ _ _ _ (by simp; omega)), Nat.add_assoc, hcl (k + j) (by omega)]
  simp only [List.getD_eq_getElem?_getD, List.getElem?_drop]

set_option maxHeartbeats 400000 in
/-- number, where there are enough bytes. -/
theorem number_enough (c k : Nat) (bs : List Int) (w : World) (hc : Cur w c bs) (hk : k ≤ bs.length) (h0 : 0 < k) (h8 : k ≤ 8) :
    Calls Tryd.prog 37 #[.pointer (some ⟨c, 0, none⟩), .int .i64 k] w fun e w' => e = .returned (.int .u64 (num (bs.take k))) ∧ Gr c w w' ∧ Cur w' c (bs.drop k) := by
  have hlt := hc.lt
  obtain ⟨v, h1, ao, cap, rfl, h2, h3, hB, hnil, hcells⟩ := hc
  obtain ⟨b, o, hb, rfl, hcl⟩ := hcells (fun e => by subst e; simp at hk; omega)
  have c0 := cell_of_one h1
  have f0 := free_of_one h1
  have HCL : Hid (∀ j, j < bs.length → w.cell? ⟨b, o + j, none⟩ = some (.int .u8 (bs.getD j 0))) := hcl
  have HB : Hid (IsB bs) := hB
  have HH : Hid (w.heap[c]? = some (.cells #[.slice (some ⟨b, o, none⟩) bs.length cap] 51 (0, 0))) := h1
  clear hcells hnil hcl hB h1
  go_enter Tryd.func37, Tryd.ntmps37
  go_wp2_with (go_at_call 27; refine (must_true _).mono ?_; rintro e w' ⟨rfl, rfl⟩)
  go_loop [5, 23] (fun n i => ∃ j : Nat, j ≤ k ∧ i = .int .i64 j ∧ n = .int .u64 (num (bs.take j))) (fun _ i => k - (intOf i).toNat)
  case atStart => exact ⟨0, by omega, rfl, rfl⟩
  case round =>
    obtain ⟨j, hj, rfl, rfl⟩ := hrel
    by_cases hlt2 : j < k
    · obtain ⟨x, hx⟩ : ∃ x, x = bs.getD j 0 := ⟨_, rfl⟩
      obtain ⟨m, hm⟩ : ∃ m, m = num (bs.take j) := ⟨_, rfl⟩
      have hc1 := HCL.out j (by omega)
      have hx0 := HB.out.at j
      have hm0 := num_take_bd HB.out j (by omega)
      rw [← hx] at hc1 hx0
      rw [← hm] at hm0 ⊢
      have HR := (show Hid (bits .or .u64 (m * 256) x = num (bs.take (j + 1))) from by
        show _ = _
        rw [or_byte hm0.1 hm0.2 hx0.1 hx0.2, num_take bs j (by omega), hx, hm])
      clear hx hm
      go_wp2
      go_round
      case rel => exact ⟨j + 1, by omega, by go_num, by rw [HR.out]⟩
      case measure => simp [intOf]; omega
    · obtain rfl : j = k := by omega
      by_cases hcap : cap = j
      · have R := cur_set (ad := ⟨b, o, none⟩) HH.out HCL.out HB.out hb h2 h3 hk (fun h => absurd h (by omega))
        rw [hcap, Nat.sub_self] at R
        clear HCL HB
        go_wp2
        go_ret
        exact ⟨rfl, R⟩
      · have R := cur_set (ad := ⟨b, o + j, none⟩) HH.out HCL.out HB.out hb h2 h3 hk (fun _ => rfl)
        clear HCL HB
        go_wp2
        go_ret
        exact ⟨rfl, R⟩

/-- WHAT number DOES. -/
theorem number_any (c k : Nat) (bs : List Int) (w : World) (hc : Cur w c bs) (h0 : 0 < k) (h8 : k ≤ 8) :
    Calls Tryd.prog 37 #[.pointer (some ⟨c, 0, none⟩), .int .i64 k] w fun e w' => Gr c w w' ∧ ((tk k bs = none ∧ e = .panicked PC) ∨ ∃ n r, tk k bs = some (n, r) ∧ e = .returned (.int .u64 n) ∧ Cur w' c r) := by
  by_cases hk : k ≤ bs.length
  · refine (number_enough c k bs w hc hk h0 h8).mono ?_
    rintro e w' ⟨rfl, h1, h2⟩
    exact ⟨h1, Or.inr ⟨_, _, tk_some hk, rfl, h2⟩⟩
  · refine (number_short c k bs w hc (by omega)).mono ?_
    rintro e w' ⟨rfl, rfl⟩
    exact ⟨Gr.refl _ _, Or.inl ⟨tk_short (by omega), rfl⟩⟩

/-- k bytes off the front, which must be the number n. -/
def ex (k : Nat) (n : Int) (bs : List Int) : Option (List Int) := (tk k bs).bind fun p => if p.1 = n then some p.2 else none

set_option maxHeartbeats 400000 in
/-- WHAT expect DOES. -/
theorem expect_any (c k : Nat) (n : Int) (bs : List Int) (w : World) (hc : Cur w c bs) (h0 : 0 < k) (h8 : k ≤ 8) :
    Calls Tryd.prog 38 #[.pointer (some ⟨c, 0, none⟩), .int .i64 k, .int .u64 n] w fun e w' => Gr c w w' ∧ ((ex k n bs = none ∧ e = .panicked PC) ∨ ∃ r, ex k n bs = some r ∧ e = .returned (.tuple #[]) ∧ Cur w' c r) := by
  have C : Hid (Cur w c bs) := hc
  clear hc
  go_enter Tryd.func38, Tryd.ntmps38
  go_wp2_with fail
  refine (number_any c k bs w C.out h0 h8).mono ?_
  rintro e w1 ⟨hg, ⟨h1, rfl⟩ | ⟨m, r, h1, rfl, hr⟩⟩
  · exact ⟨rfl, hg, Or.inl ⟨by simp [ex, h1], rfl⟩⟩
  · by_cases hm : m = n
    · have hd : (m == n) = true := by simpa using hm
      have HX := (show Hid (ex k n bs = some r) from by show _ = _; simp [ex, h1, hm])
      clear C h1 hm
      go_wp2_with (go_at_call 27; refine (must_true _).mono ?_; rintro e w' ⟨rfl, rfl⟩)
      first | go_end0 | refine bodyPost_ret (results_none rfl _ _ _) rfl ?_
      exact ⟨hg, Or.inr ⟨r, HX.out, rfl, hr⟩⟩
    · have hd : (m == n) = false := by simpa using hm
      have HX := (show Hid (ex k n bs = none) from by show _ = _; simp [ex, h1, hm])
      clear C h1 hm
      go_wp2_with (go_at_call 27; refine (must_false _).mono ?_; rintro e w' ⟨rfl, rfl⟩)
      exact ⟨rfl, hg, Or.inl ⟨HX.out, rfl⟩⟩
end Go.Proofs.YtioohgcaakcgaaaDoor
