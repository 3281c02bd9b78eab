/-
  Proved here: CrcNotices's body returns true for every bytes, place and change; no old memory turns. Conditions: Sum, Seal and Open answer what 'crc', 'seE', 'seL', 'opE', 'opL' say; the change is unsigned, of 32 bits.
-/
import Derived.Test.YtdkmdabjhapdeaaW0
namespace Go.Proofs.Ytdkmdabjhapdeaa
open Go.RowKit Seal

theorem flip_step {z q p j idx : Nat} {xs : List Int} {y : Int} (h : le xs = z ^^^ ((q % 2 ^ j) <<< p)) (hb : q / 2 ^ j % 2 = 1) (hi : idx = (p + j) / 8) (hl : idx < xs.length) (hy : y.toNat = (xs.getD idx 0).toNat ^^^ 2 ^ ((p + j) % 8)) :
    le (xs.set idx y) = z ^^^ ((q % 2 ^ (j + 1)) <<< p) := by
  rw [le_set xs idx y _ hl hy, h, mod_step, hb, Nat.shiftLeft_xor_distrib, Nat.xor_assoc]
  congr 2
  rw [← Nat.shiftLeft_add, Nat.shiftLeft_eq, Nat.shiftLeft_eq, Nat.one_mul, ← Nat.pow_add]
  congr 1
  omega
theorem keep_step {q j : Nat} (hb : ¬ q / 2 ^ j % 2 = 1) : q % 2 ^ (j + 1) = q % 2 ^ j := by
  rw [mod_step, show q / 2 ^ j % 2 = 0 by omega, Nat.zero_shiftLeft, Nat.xor_zero]
/-- A byte of what the call owns is stored. -/
theorem Owns.set {base g n c : Nat} {w : World} {xs : List Int} (h : Owns base w (.slice (some ⟨g, 0, none⟩) n c) xs) (j : Nat) (y : Int) : Owns base (w.setCell ⟨g, j, none⟩ (.int .u8 y)) (.slice (some ⟨g, 0, none⟩) n c) (xs.set j y) := by
  have hn : xs.length = (xs.set j y).length := by simp
  unfold Owns
  rw [← hn]
  refine ⟨by simp, ?_⟩
  rcases h.2 with ⟨e, _⟩ | ⟨g', cap, cur, e, hb, hg, hc, hm, hsz, ht⟩
  · cases e
  · simp only [Value.slice.injEq, Option.some.injEq, Addr.mk.injEq] at e
    obtain ⟨⟨rfl, _, _⟩, rfl, rfl⟩ := e
    refine Or.inr ⟨g, c, cur.setIfInBounds j (.int .u8 y), rfl, hb, ?_, hc, hm, by simpa using hsz, ?_⟩
    · rw [heap_setCell_same w g j _ 5 _ hg]
    · rw [Array.toList_setIfInBounds, List.map_set, ← ht, List.take_set]
theorem IsB.set {xs : List Int} (h : IsB xs) (j : Nat) {y : Int} (h0 : 0 ≤ y) (h1 : y < 256) : IsB (xs.set j y) := fun x hx => by
  rcases List.mem_or_eq_of_mem_set hx with hx | rfl
  · exact h x hx
  · exact ⟨h0, h1⟩
theorem Owns.cell {base g n c : Nat} {w : World} {xs : List Int} (h : Owns base w (.slice (some ⟨g, 0, none⟩) n c) xs) (j : Nat) (hj : j < xs.length) : w.cell? ⟨g, j, none⟩ = some (.int .u8 (xs.getD j 0)) ∧ w.frozen? ⟨g, j, none⟩ = false := by
  rcases h.2 with ⟨e, _⟩ | ⟨g', cap, cur, e, hb, hg, hc, hm, hsz, ht⟩
  · cases e
  · simp only [Value.slice.injEq, Option.some.injEq, Addr.mk.injEq] at e
    obtain ⟨⟨rfl, _, _⟩, rfl, rfl⟩ := e
    refine ⟨?_, by simp [World.frozen?, hg]⟩
    rw [cell_of_row w g j cur 5 (0, 0) hg]
    have h2 : (cur.toList.take (xs.length * 1))[j]? = (xs.map (Value.int .u8))[j]? := by rw [ht]
    rw [List.getElem?_take, if_pos (by omega)] at h2
    simp only [Array.getElem?_toList, List.getElem?_map] at h2
    rw [h2, List.getD_eq_getElem?_getD, List.getElem?_eq_getElem hj]; rfl

theorem bit_at (Q j : Nat) (h : Q < 4294967296) : bits .and .u32 ((Q : Int) / 2 ^ j) 1 = ((Q / 2 ^ j % 2 : Nat) : Int) := by
  have hlt : Q / 2 ^ j < 4294967296 := Nat.lt_of_le_of_lt (Nat.div_le_self _ _) h
  have := and1 hlt
  rw [← this]
  congr 1
theorem bit_at' {q : Int} (j : Nat) (h0 : 0 ≤ q) (h1 : q < 4294967296) : bits .and .u32 (q / 2 ^ j) 1 = ((q.toNat / 2 ^ j % 2 : Nat) : Int) := by
  obtain ⟨Q, rfl⟩ := Int.eq_ofNat_of_zero_le h0
  exact bit_at Q j (by omega)
theorem flipv {x : Int} {m : Nat} (h0 : 0 ≤ x) (h1 : x < 256) (hm : m < 8) : bits .xor .u8 x (2 ^ m % 256) = ((x.toNat ^^^ 2 ^ m : Nat) : Int) ∧ x.toNat ^^^ 2 ^ m < 256 := by
  have hp : 2 ^ m < 2 ^ 8 := Nat.pow_lt_pow_right (by omega) hm
  have e : (2 : Int) ^ m % 256 = ((2 ^ m : Nat) : Int) := by
    have : m = 0 ∨ m = 1 ∨ m = 2 ∨ m = 3 ∨ m = 4 ∨ m = 5 ∨ m = 6 ∨ m = 7 := by omega
    rcases this with rfl | rfl | rfl | rfl | rfl | rfl | rfl | rfl <;> rfl
  rw [e, u8_xor x _ h0 h1 (by omega) (by omega)]
  exact ⟨by rw [Int.toNat_natCast], Nat.xor_lt_two_pow (n := 8) (by omega) hp⟩
theorem place (k N : Int) (h0 : 0 < N) (h1 : N ≤ 1000000) : ∃ p : Nat, (Go.RowKit.wrap64 (k.tmod N + N)).tmod N = (p : Int) ∧ (p : Int) < N := by
  have ha := Int.natAbs_tmod k N
  have hb := Nat.mod_lt k.natAbs (show 0 < N.natAbs by omega)
  rw [← ha] at hb
  have hw : Go.RowKit.wrap64 (k.tmod N + N) = k.tmod N + N := by
    unfold Go.RowKit.wrap64
    omega
  rw [hw]
  have hn := Int.tmod_nonneg N (show 0 ≤ k.tmod N + N by omega)
  have hlt := Int.tmod_lt_of_pos (k.tmod N + N) h0
  exact ⟨((k.tmod N + N).tmod N).toNat, by omega, by omega⟩
theorem Owns.form {base : Nat} {w : World} {v : Value} {xs : List Int} (h : Owns base w v xs) (hne : xs.length ≠ 0) : ∃ g c, v = .slice (some ⟨g, 0, none⟩) xs.length c ∧ base ≤ g := by
  rcases h.2 with ⟨_, h0⟩ | ⟨g, cap, cur, e, hb, _⟩
  · exact absurd h0 hne
  · exact ⟨g, cap, e, hb⟩

set_option maxRecDepth 100000 in
set_option maxHeartbeats 3200000 in
/-- CrcNotices. -/
theorem notices_any (P : Prg) (B : Nat) (v : Value) (bs : List Int) (k q : Int) (w : World) (hs : Sl B w v bs) (hB : B ≤ w.heap.size) (q0 : 0 ≤ q) (q1 : q < 4294967296) :
    Calls Try.prog 5 #[v, .int .i64 k, .int .u32 q] w fun e w' => e = .returned (.bool true) ∧ Below w.heap.size w w' := by
  have HS : Hid (Sl B w v bs) := hs
  have HI : Hid (IsB bs) := hs.isB
  obtain ⟨ao, cap, rfl, _⟩ := hs
  go_enter Try.func5, Try.ntmps5
  go_wp2_with fail
  go_fit (P.seal' B _ bs w HS.out hB)
  rintro e w1 ⟨v1, rfl, hb1, hO1⟩
  have HL1 : Hid (Below w.heap.size w w1) := hb1
  clear hb1 HS
  by_cases hl : 16384 < bs.length
  · have e1 : seE bs = 3 := by simp [seE, hl]
    rw [e1]
    clear hO1 hl e1
    go_wp2_with (go_at_call 13; refine (wakes_any P _).mono ?_; rintro e w7 ⟨rfl, hb7⟩)
    go_ret
    exact ⟨rfl, HL1.out.trans (hb7.mono HL1.out.size)⟩
  · have e1 : seE bs = 0 := by simp [seE, hl]
    rw [e1]
    by_cases hq : q = 0
    · have hd : (q == 0) = true := by simp [hq]
      clear hO1 hl e1 hq
      go_wp2_with (go_at_call 13; refine (wakes_any P _).mono ?_; rintro e w7 ⟨rfl, hb7⟩)
      go_ret
      exact ⟨rfl, HL1.out.trans (hb7.mono HL1.out.size)⟩
    · have hd : (q == 0) = false := by simp [hq]
      have e2 : seL bs = bs ++ four (crc bs) := by simp [seL, hl]
      rw [e2] at hO1
      have hM : (bs ++ four (crc bs)).length = bs.length + 4 := by simp [four]
      obtain ⟨g, c1, rfl, hg⟩ := hO1.form (by omega)
      rw [hM]
      have HO1 : Hid (Owns w.heap.size w1 (.slice (some ⟨g, 0, none⟩) (bs.length + 4) c1) (bs ++ four (crc bs))) := by
        rw [hM] at hO1; exact hO1
      obtain ⟨L, hL⟩ : ∃ L, L = bs.length := ⟨_, rfl⟩
      rw [← hL] at hl HO1 hM ⊢
      have HLL : Hid (L = bs.length) := hL
      clear hO1 e1 e2 hL
      go_wp2
      obtain ⟨p, hp, hpN⟩ := place k (8 * ((L : Int) + 4) - 31) (by omega) (by omega)
      rw [hp]
      have HP : Hid (p ≤ 8 * L) := by show _ ≤ _; omega
      clear hp
      go_loopw [37] (fun i wr => ∃ j : Nat, j ≤ 32 ∧ i = .int .i64 j ∧ ∃ xs : List Int, xs.length = L + 4 ∧ IsB xs ∧ Owns w.heap.size wr (.slice (some ⟨g, 0, none⟩) (L + 4) c1) xs ∧ le xs = le (bs ++ four (crc bs)) ^^^ ((q.toNat % 2 ^ j) <<< p) ∧ Below w.heap.size w wr) (fun i _ => 32 - (intOf i).toNat)
      case atStart => exact ⟨0, by omega, rfl, _, hM, HI.out.app (four_isB _), HO1.out, by simp [Nat.mod_one], HL1.out⟩
      case round =>
        obtain ⟨j, hj, rfl, xs, hxl, hxB, hxO, hxe, hlow⟩ := hrel
        have HL : Hid (Below w.heap.size w wr) := hlow
        have HXB : Hid (IsB xs) := hxB
        have HXO : Hid (Owns w.heap.size wr (.slice (some ⟨g, 0, none⟩) (L + 4) c1) xs) := hxO
        have HXE : Hid (le xs = le (bs ++ four (crc bs)) ^^^ ((q.toNat % 2 ^ j) <<< p)) := hxe
        have HXL : Hid (xs.length = L + 4) := hxl
        clear hlow hxB hxO hxe hxl
        by_cases hlt : j < 32
        · have hbit := bit_at' j q0 q1
          by_cases hb : q.toNat / 2 ^ j % 2 = 1
          · rw [hb] at hbit
            obtain ⟨idx, hidx⟩ : ∃ i, i = (p + j) / 8 := ⟨_, rfl⟩
            have hil : idx < xs.length := by rw [HXL.out, hidx]; have := HP.out; omega
            obtain ⟨hc, hf⟩ := HXO.out.cell idx hil
            have hx0 := HXB.out.at idx
            obtain ⟨x, hx⟩ : ∃ x, x = xs.getD idx 0 := ⟨_, rfl⟩
            rw [← hx] at hc hx0
            obtain ⟨hv, hv2⟩ := flipv (m := (p + j) % 8) hx0.1 hx0.2 (by omega)
            have hset := HXO.out.set idx ((x.toNat ^^^ 2 ^ ((p + j) % 8) : Nat) : Int)
            have hle := flip_step HXE.out hb hidx hil (y := ((x.toNat ^^^ 2 ^ ((p + j) % 8) : Nat) : Int)) (by rw [← hx]; simp)
            have hbb := HXB.out.set idx (y := ((x.toNat ^^^ 2 ^ ((p + j) % 8) : Nat) : Int)) (by omega) (by omega)
            have hll : (xs.set idx ((x.toNat ^^^ 2 ^ ((p + j) % 8) : Nat) : Int)).length = L + 4 := by rw [List.length_set, HXL.out]
            rw [hidx] at hc hf hset hle hbb hll
            generalize xs.set ((p + j) / 8) ((x.toNat ^^^ 2 ^ ((p + j) % 8) : Nat) : Int) = ys at hset hle hbb hll
            rw [← hv] at hset
            have R1 : Hid (Owns w.heap.size (wr.setCell ⟨g, (p + j) / 8, none⟩ (.int .u8 (bits .xor .u8 x (2 ^ ((p + j) % 8) % 256)))) (.slice (some ⟨g, 0, none⟩) (L + 4) c1) ys) := hset
            have R2 : Hid (le ys = le (bs ++ four (crc bs)) ^^^ ((q.toNat % 2 ^ (j + 1)) <<< p)) := hle
            have R3 : Hid (IsB ys) := hbb
            have R4 : Hid (ys.length = L + 4) := hll
            clear hset hle hbb hll hv hv2 hx hb hidx hil HXE HXB HXO HXL
            go_wp2
            go_roundw
            case rel => exact ⟨j + 1, by omega, by go_num, ys, R4.out, R3.out, R1.out, R2.out, HL.out.setCell (p := ⟨g, (p + j) / 8, none⟩) hg _⟩
            case measure => simp [intOf]; omega
          · rw [show q.toNat / 2 ^ j % 2 = 0 by omega] at hbit
            have HK : Hid (q.toNat % 2 ^ (j + 1) = q.toNat % 2 ^ j) := keep_step hb
            clear hb
            go_wp2
            go_roundw
            case rel => exact ⟨j + 1, by omega, by go_num, xs, HXL.out, HXB.out, HXO.out, by rw [HK.out]; exact HXE.out, HL.out⟩
            case measure => simp [intOf]; omega
        · obtain rfl : j = 32 := by omega
          have hQ : q.toNat % 2 ^ 32 = q.toNat := Nat.mod_eq_of_lt (by omega)
          have hxe := HXE.out
          rw [hQ] at hxe
          have HE : Hid (opE xs = 50) := open_torn HI.out HXB.out (by rw [HXL.out, HLL.out]) (p := p) (q := q.toNat) (by have := HP.out; have := HLL.out; omega) (by omega) (by omega) hxe
          have HS4 : Hid (Sl wr.heap.size wr (.slice (some ⟨g, 0, none⟩) (L + 4) c1) xs) := Sl.own HXO.out (by rw [HXL.out]; omega) HXB.out
          clear hxe HXE HXB HXO
          go_wp2_with fail
          go_fit (P.open' wr.heap.size _ xs wr HS4.out (Nat.le_refl _))
          rintro e w5 ⟨v5, rfl, hb5, hO5⟩
          rw [HE.out]
          have HL5 : Hid (Below w.heap.size w w5) := HL.out.trans (hb5.mono HL.out.size)
          clear hb5 hO5 HE HS4 HL
          go_wp2_with (go_at_call 13; refine (wakes_any P _).mono ?_; rintro e w7 ⟨rfl, hb7⟩)
          go_ret
          exact ⟨rfl, HL5.out.trans (hb7.mono HL5.out.size)⟩
end Go.Proofs.Ytdkmdabjhapdeaa
