/-
  Proved here: CrcLinear's body returns true for every two rows of bytes; no old memory turns. Conditions: Sum, Seal and Open answer what 'crc', 'seE', 'seL', 'opE', 'opL' say.
-/
import Derived.Test.YtdkmdabjhapdeaaWN
import Derived.Deep.DeepCutAuto
import Derived.Deep.RegionHeld3
import Derived.BigQuiet
namespace Go.Proofs.Ytdkmdabjhapdeaa
open Go.RowKit Seal

theorem le_zip : ∀ {a b c : List Int}, a.length = b.length → c.length = b.length → (∀ i, i < b.length → (c.getD i 0).toNat = (a.getD i 0).toNat ^^^ (b.getD i 0).toNat) → le c = le a ^^^ le b
  | [], [], [], _, _, _ => rfl
  | [], _ :: _, _, h, _, _ => by simp at h
  | _ :: _, [], _, h, _, _ => by simp at h
  | [], [], _ :: _, _, h, _ => by simp at h
  | _ :: _, _ :: _, [], _, h, _ => by simp at h
  | x :: a, y :: b, z :: c, h1, h2, h => by
    have h0 := h 0 (by simp)
    simp only [List.getD_cons_zero] at h0
    have ih := le_zip (a := a) (b := b) (c := c) (by simpa using h1) (by simpa using h2) (fun i hi => by
      have := h (i + 1) (by simpa using hi)
      simpa using this)
    show z.toNat ^^^ (le c <<< 8) = (x.toNat ^^^ (le a <<< 8)) ^^^ (y.toNat ^^^ (le b <<< 8))
    rw [h0, ih, Nat.shiftLeft_xor_distrib, Nat.xor_assoc, Nat.xor_assoc]
    congr 1
    rw [xor_lc]
theorem getD_take {l : List Int} {k i : Nat} (h : i < k) : (l.take k).getD i 0 = l.getD i 0 := by
  simp only [List.getD_eq_getElem?_getD, List.getElem?_take, if_pos h]
/-- A new slice of noughts. -/
theorem mk22 {ops : Array Oper} {rest : List Oper} {o : Oper} {a : Act} {w : World} {Q : Exit → Act → World → Prop} (l : Operand) (ho : o.op = .makeSlice 22 l l) (hg : o.guard = none) (n : Nat) (hl : a.eval l = .int .i64 (n : Int)) (hn : n ≤ 140737488355328)
    (h : ∀ w', Owns w.heap.size w' (.slice (some ⟨w.heap.size, 0, none⟩) n n) (List.replicate n 0) → Below w.heap.size w w' → wpList Try.prog ops Q rest (a.put o.dst (.slice (some ⟨w.heap.size, 0, none⟩) n n)) w') : wpList Try.prog ops Q (o :: rest) a w := by
  obtain ⟨i, hi, hz0, hz1, hz2⟩ := info_parts info5
  refine wpList_make_full w hg l l 22 ho w.heap.size 5 i (.int .u8 0) 1 Try.underlying22 hi hz0 hz1 .i64 .i64 n n n hl hl rfl rfl (by rw [hz2]; omega) (by unfold maxLen; omega) (Nat.le_refl _) fun w' h1 h2 => h w' ?_ ⟨h2.os, h2.tape, h2.output, h2.size, fun k hk => h2.block k hk (by simp)⟩
  have e : (madeCells (Value.int .u8 0).cells (n * 1)).toList = (List.replicate n (0 : Int)).map (Value.int .u8) := by
    rw [Nat.mul_one, show (Value.int .u8 0).cells = #[.int .u8 0] from rfl, toList_madeCells_one, List.map_replicate]
  rw [e] at h1
  unfold Owns
  rw [List.length_replicate]
  exact h1

theorem run_make22 {w : World} (n : Nat) (hn : n ≤ 140737488355328) : ∃ w', (Instr.makeSlice 22 (.int .i64 (n : Int)) (.int .i64 (n : Int))).run Try.prog w = .ok (.slice (some ⟨w.heap.size, 0, none⟩) n n) w' ∧ Owns w.heap.size w' (.slice (some ⟨w.heap.size, 0, none⟩) n n) (List.replicate n 0) ∧ Below w.heap.size w w' := by
  obtain ⟨i, hi, hz0, hz1, hz2⟩ := info_parts info5
  obtain ⟨w', hr, h1, h2⟩ := run_make_full (P := Try.prog) w w.heap.size 22 5 i (.int .u8 0) 1 Try.underlying22 hi hz0 hz1 .i64 .i64 n (by rw [hz2]; omega) (by unfold maxLen; omega) (Nat.le_refl _)
  refine ⟨w', hr, ?_, ⟨h2.os, h2.tape, h2.output, h2.size, fun k hk => h2.block k hk (by simp)⟩⟩
  have e : (madeCells (Value.int .u8 0).cells (n * 1)).toList = (List.replicate n (0 : Int)).map (Value.int .u8) := by
    rw [Nat.mul_one, show (Value.int .u8 0).cells = #[.int .u8 0] from rfl, toList_madeCells_one, List.map_replicate]
  rw [e] at h1
  unfold Owns
  rw [List.length_replicate]
  exact h1

set_option maxHeartbeats 6400000 in
/-- CrcLinear. -/
theorem linear_any (P : Prg) (B : Nat) (u v : Value) (xs bs : List Int) (w : World) (hu : Sl B w u xs) (hv : Sl B w v bs) (hB : B ≤ w.heap.size) :
    Calls Try.prog 6 #[u, v] w fun e w' => e = .returned (.bool true) ∧ Below w.heap.size w w' := by
  have HU : Hid (Sl B w u xs) := hu
  have HV : Hid (Sl B w v bs) := hv
  have la := hu.len
  have lb := hv.len
  obtain ⟨ao, ca, rfl, qa, _, _, _, ja⟩ := hu
  obtain ⟨bo, cb, rfl, qb, _, _, _, jb⟩ := hv
  have JA : Hid (xs ≠ [] → ∃ b o, b < B ∧ ao = some ⟨b, o, none⟩ ∧ ∀ j, j < xs.length → w.cell? ⟨b, o + j, none⟩ = some (.int .u8 (xs.getD j 0))) := ja
  have JB : Hid (bs ≠ [] → ∃ b o, b < B ∧ bo = some ⟨b, o, none⟩ ∧ ∀ j, j < bs.length → w.cell? ⟨b, o + j, none⟩ = some (.int .u8 (bs.getD j 0))) := jb
  clear ja jb
  go_enter Try.func6, Try.ntmps6
  go_upto_region 2 with fail
  obtain ⟨n, hn, hna, hnb⟩ : ∃ n : Nat, (if bs.length < xs.length then (bs.length : Int) else (xs.length : Int)) = (n : Int) ∧ n ≤ xs.length ∧ n ≤ bs.length := by
    by_cases h : bs.length < xs.length
    · exact ⟨bs.length, by rw [if_pos h], by omega, Nat.le_refl _⟩
    · exact ⟨xs.length, by rw [if_neg h], Nat.le_refl _, by omega⟩
  rw [hn]
  clear hn
  go_wp2_with (refine mk22 (.tmp 13) rfl rfl n rfl (by omega) ?_; intro w1 hO1 hb1)
  have HO1 : Hid (Owns w.heap.size w1 (.slice (some ⟨w.heap.size, 0, none⟩) n n) (List.replicate n 0)) := hO1
  have HL1 : Hid (Below w.heap.size w w1) := hb1
  clear hO1 hb1
  go_loopw [17] (fun i wr => ∃ k : Nat, k ≤ n ∧ i = .int .i64 k ∧ ∃ ys : List Int, ys.length = n ∧ IsB ys ∧ Owns w.heap.size wr (.slice (some ⟨w.heap.size, 0, none⟩) n n) ys ∧ (∀ i, i < k → (ys.getD i 0).toNat = (xs.getD i 0).toNat ^^^ (bs.getD i 0).toNat) ∧ Below w.heap.size w wr) (fun i _ => n - (intOf i).toNat)
  case atStart => exact ⟨0, by omega, rfl, _, by simp, fun x hx => by rw [List.eq_of_mem_replicate hx]; omega, HO1.out, fun i hi => absurd hi (by omega), HL1.out⟩
  case round =>
    obtain ⟨k, hk, rfl, ys, hyl, hyB, hyO, hye, hlow⟩ := hrel
    have HL : Hid (Below w.heap.size w wr) := hlow
    have HYB : Hid (IsB ys) := hyB
    have HYO : Hid (Owns w.heap.size wr (.slice (some ⟨w.heap.size, 0, none⟩) n n) ys) := hyO
    have HYE : Hid (∀ i, i < k → (ys.getD i 0).toNat = (xs.getD i 0).toNat ^^^ (bs.getD i 0).toNat) := hye
    have HYL : Hid (ys.length = n) := hyl
    clear hlow hyB hyO hye hyl
    by_cases hlt : k < n
    · obtain ⟨ba, oa, lba, rfl, cla⟩ := JA.out (fun e => by subst e; simp at hna; omega)
      obtain ⟨bb, ob, lbb, rfl, clb⟩ := JB.out (fun e => by subst e; simp at hnb; omega)
      have hx0 := HU.out.isB.at k
      have hy0 := HV.out.isB.at k
      obtain ⟨x, hx⟩ : ∃ x, x = xs.getD k 0 := ⟨_, rfl⟩
      obtain ⟨y, hy⟩ : ∃ y, y = bs.getD k 0 := ⟨_, rfl⟩
      have c1 : wr.cell? ⟨ba, oa + k, none⟩ = some (.int .u8 x) := by
        rw [HL.out.cell (p := ⟨ba, oa + k, none⟩) (Nat.lt_of_lt_of_le lba hB), hx]
        exact cla k (by omega)
      have c2 : wr.cell? ⟨bb, ob + k, none⟩ = some (.int .u8 y) := by
        rw [HL.out.cell (p := ⟨bb, ob + k, none⟩) (Nat.lt_of_lt_of_le lbb hB), hy]
        exact clb k (by omega)
      obtain ⟨c3, f3⟩ := HYO.out.cell k (by rw [HYL.out]; exact hlt)
      rw [← hx] at hx0
      rw [← hy] at hy0
      have hv : bits .xor .u8 x y = ((x.toNat ^^^ y.toNat : Nat) : Int) := u8_xor x y hx0.1 hx0.2 hy0.1 hy0.2
      have hv2 : x.toNat ^^^ y.toNat < 256 := Nat.xor_lt_two_pow (n := 8) (by omega) (by omega)
      have HX : Hid (x = xs.getD k 0) := hx
      have HY : Hid (y = bs.getD k 0) := hy
      obtain ⟨t, ht⟩ : ∃ t, t = x.toNat ^^^ y.toNat := ⟨_, rfl⟩
      rw [← ht] at hv hv2
      have HT : Hid (t = x.toNat ^^^ y.toNat) := ht
      clear hx hy ht cla clb
      go_wp2
      have hset := HYO.out.set k ((t : Nat) : Int)
      have hbb := HYB.out.set k (y := ((t : Nat) : Int)) (by omega) (by omega)
      have hll : (ys.set k ((t : Nat) : Int)).length = n := by rw [List.length_set, HYL.out]
      have hee : ∀ i, i < k + 1 → ((ys.set k ((t : Nat) : Int)).getD i 0).toNat = (xs.getD i 0).toNat ^^^ (bs.getD i 0).toNat := fun i hi => by
        by_cases e : i = k
        · subst e
          rw [List.getD_eq_getElem?_getD, List.getElem?_set_self (by rw [HYL.out]; exact hlt), Option.getD_some, Int.toNat_natCast, HT.out, HX.out, HY.out]
        · rw [List.getD_eq_getElem?_getD, List.getElem?_set_ne (fun h => e h.symm), ← List.getD_eq_getElem?_getD]
          exact HYE.out i (by omega)
      generalize ys.set k ((t : Nat) : Int) = zs at hset hbb hll hee
      have R1 : Hid (Owns w.heap.size (wr.setCell ⟨w.heap.size, k, none⟩ (.int .u8 (t : Nat))).drew (.slice (some ⟨w.heap.size, 0, none⟩) n n) zs) := hset
      have R2 : Hid (∀ i, i < k + 1 → (zs.getD i 0).toNat = (xs.getD i 0).toNat ^^^ (bs.getD i 0).toNat) := hee
      have R3 : Hid (IsB zs) := hbb
      have R4 : Hid (zs.length = n) := hll
      clear hset hbb hll hee HYO HYB HYE HYL HX HY HT
      go_region
      go_wp2
      go_roundw
      case rel => exact ⟨k + 1, by omega, by go_num, zs, R4.out, R3.out, R1.out, R2.out, (HL.out.setCell (p := ⟨w.heap.size, k, none⟩) (Nat.le_refl _) _).drew⟩
      case measure => simp [intOf]; omega
    · obtain rfl : k = n := by omega
      have ga : (k : Int) ≤ ca := by omega
      have gb : (k : Int) ≤ cb := by omega
      have hz : le (List.replicate k (0 : Int)) = 0 := le_zero k
      have hlen1 : (xs.take k).length = k := by rw [List.length_take]; omega
      have hlen2 : (bs.take k).length = k := by rw [List.length_take]; omega
      have hle : le ys = le (xs.take k) ^^^ le (bs.take k) := le_zip (by rw [hlen1, hlen2]) (by rw [HYL.out, hlen2]) (fun i hi => by
        rw [hlen2] at hi
        rw [getD_take hi, getD_take hi]; exact HYE.out i hi)
      have hsum := linear (a := xs.take k) (b := bs.take k) (c := ys) (z := List.replicate k 0) (by rw [hlen1, hlen2]) (by rw [HYL.out, hlen2]) (by rw [List.length_replicate, hlen2]) hle hz
      have n1 := crc_lt32 (HU.out.isB.take k)
      have n2 := crc_lt32 (HV.out.isB.take k)
      have n3 := crc_lt32 HYB.out
      have hzB : IsB (List.replicate k (0 : Int)) := fun x hx => by rw [List.eq_of_mem_replicate hx]; omega
      have n4 := crc_lt32 hzB
      have HA : Hid (Sl B wr (.slice ao k ca) (xs.take k)) := (HU.out.on (HL.out.mono hB)).pre k hna
      have HB : Hid (Sl B wr (.slice bo k cb) (bs.take k)) := (HV.out.on (HL.out.mono hB)).pre k hnb
      have HC : Hid (Sl wr.heap.size wr (.slice (some ⟨w.heap.size, 0, none⟩) k k) ys) := Sl.own HYO.out (by rw [HYL.out]; omega) HYB.out
      obtain ⟨p1, hp1⟩ : ∃ p, p = crc (xs.take k) := ⟨_, rfl⟩
      obtain ⟨p2, hp2⟩ : ∃ p, p = crc (bs.take k) := ⟨_, rfl⟩
      obtain ⟨p3, hp3⟩ : ∃ p, p = crc ys := ⟨_, rfl⟩
      obtain ⟨p4, hp4⟩ : ∃ p, p = crc (List.replicate k 0) := ⟨_, rfl⟩
      rw [← hp1, ← hp2, ← hp3, ← hp4] at hsum
      rw [← hp1] at n1
      rw [← hp2] at n2
      rw [← hp3] at n3
      rw [← hp4] at n4
      have x1 : bits .xor .u32 (p1 : Int) (p2 : Int) = ((p1 ^^^ p2 : Nat) : Int) := u32_xor_nat p1 p2 n1 n2
      have n12 : p1 ^^^ p2 < 4294967296 := Nat.xor_lt_two_pow (n := 32) n1 n2
      have x2 : bits .xor .u32 ((p1 ^^^ p2 : Nat) : Int) (p3 : Int) = ((p1 ^^^ p2 ^^^ p3 : Nat) : Int) := u32_xor_nat _ p3 n12 n3
      have n123 : p1 ^^^ p2 ^^^ p3 < 4294967296 := Nat.xor_lt_two_pow (n := 32) n12 n3
      have x3 : bits .xor .u32 ((p1 ^^^ p2 ^^^ p3 : Nat) : Int) (p4 : Int) = 0 := by
        rw [u32_xor_nat _ p4 n123 n4, hsum]; rfl
      generalize p1 ^^^ p2 ^^^ p3 = t3 at x2 x3
      generalize p1 ^^^ p2 = t2 at x1 x2
      have S1 : Hid (∀ (W : World), Below wr.heap.size wr W → Calls Try.prog 11 #[.slice ao k ca] W fun e w' => e = .returned (.int .u32 p1) ∧ Below W.heap.size W w') := fun W h => by
        have := P.sum B _ (xs.take k) W (HA.out.on (h.mono (Nat.le_trans hB HL.out.size))) (Nat.le_trans (Nat.le_trans hB HL.out.size) h.size)
        rw [← hp1] at this; exact this
      have S2 : Hid (∀ (W : World), Below wr.heap.size wr W → Calls Try.prog 11 #[.slice bo k cb] W fun e w' => e = .returned (.int .u32 p2) ∧ Below W.heap.size W w') := fun W h => by
        have := P.sum B _ (bs.take k) W (HB.out.on (h.mono (Nat.le_trans hB HL.out.size))) (Nat.le_trans (Nat.le_trans hB HL.out.size) h.size)
        rw [← hp2] at this; exact this
      have S3 : Hid (∀ (W : World), Below wr.heap.size wr W → Calls Try.prog 11 #[.slice (some ⟨w.heap.size, 0, none⟩) k k] W fun e w' => e = .returned (.int .u32 p3) ∧ Below W.heap.size W w') := fun W h => by
        have := P.sum wr.heap.size _ ys W (HC.out.on h) h.size
        rw [← hp3] at this; exact this
      have S4 : Hid (∀ (W : World) (v : Value), Sl W.heap.size W v (List.replicate k 0) → Calls Try.prog 11 #[v] W fun e w' => e = .returned (.int .u32 p4) ∧ Below W.heap.size W w') := fun W v h => by
        have := P.sum W.heap.size v _ W h (Nat.le_refl _)
        rw [← hp4] at this; exact this
      clear hp1 hp2 hp3 hp4 hsum n1 n2 n3 n4 n12 n123 hle hz hlen1 hlen2 HA HB HC HYO HYB HYE HYL HU HV JA JB HO1 HL1 hzB
      go_wp2
      -- region 8
      refine wp_region_noPanic ?_
      refine wp_region_held_drew (S := (fun w' => Below wr.heap.size wr w')) (by kernel_rfl) ((Below.refl _ _).drew) (fun hHeld => ?_)
      refine wpAnyH_take (i := 0) (v := ?_) rfl (by kernel_rfl) (by kernel_rfl) (by kernel_rfl) (fun _ _ _ h => h) (Or.inl ⟨by rfl, ?_⟩) hHeld ?_
      rotate_left
      · intro w hSw
        go_simp
        first | done | with_reducible rfl
      simp only [Act.put, List.getElem_toArray, List.getElem_cons_zero, List.setIfInBounds_toArray, List.set_cons_zero, List.set_cons_succ]
      refine wpAnyH_take (i := 1) (v := ?_) rfl (by kernel_rfl) (by kernel_rfl) (by kernel_rfl) (fun _ _ _ h => h) (Or.inl ⟨by rfl, ?_⟩) hHeld ?_
      rotate_left
      · intro w hSw
        go_simp
        first | done | with_reducible rfl
      simp only [Act.put, List.getElem_toArray, List.getElem_cons_succ, List.getElem_cons_zero, List.setIfInBounds_toArray, List.set_cons_zero, List.set_cons_succ]
      refine wpAnyH_take (i := 2) (v := ?_) rfl (by kernel_rfl) (by kernel_rfl) (by kernel_rfl) (fun _ _ _ h => h) (Or.inl ⟨by rfl, ?_⟩) hHeld ?_
      rotate_left
      · intro w hSw
        go_simp
        first | done | with_reducible rfl
      simp only [Act.put, List.getElem_toArray, List.getElem_cons_succ, List.getElem_cons_zero, List.setIfInBounds_toArray, List.set_cons_zero, List.set_cons_succ]
      refine wpAnyH_take (i := 4) (v := ?_) rfl (by kernel_rfl) (by kernel_rfl) (by kernel_rfl) (fun _ _ _ h => h) (Or.inl ⟨by rfl, ?_⟩) hHeld ?_
      rotate_left
      · intro w hSw
        go_simp
        first | done | with_reducible rfl
      simp only [Act.put, List.getElem_toArray, List.getElem_cons_succ, List.getElem_cons_zero, List.setIfInBounds_toArray, List.set_cons_zero, List.set_cons_succ]
      refine wpAnyH_take (i := 5) (v := ?_) rfl (by kernel_rfl) (by kernel_rfl) (by kernel_rfl) (fun _ _ _ h => h) (Or.inl ⟨by rfl, ?_⟩) hHeld ?_
      rotate_left
      · intro w hSw
        go_simp
        first | done | with_reducible rfl
      simp only [Act.put, List.getElem_toArray, List.getElem_cons_succ, List.getElem_cons_zero, List.setIfInBounds_toArray, List.set_cons_zero, List.set_cons_succ]
      refine wpAnyH_take (i := 6) (v := ?_) rfl (by kernel_rfl) (by kernel_rfl) (by kernel_rfl) (fun _ _ _ h => h) (Or.inl ⟨by rfl, ?_⟩) hHeld ?_
      rotate_left
      · intro w hSw
        go_simp
        first | done | with_reducible rfl
      simp only [Act.put, List.getElem_toArray, List.getElem_cons_succ, List.getElem_cons_zero, List.setIfInBounds_toArray, List.set_cons_zero, List.set_cons_succ]
      refine wpAnyH_take (i := 9) (v := ?_) rfl (by kernel_rfl) (by kernel_rfl) (by kernel_rfl) (fun _ _ _ h => h) (Or.inl ⟨by rfl, ?_⟩) hHeld ?_
      rotate_left
      · intro w hSw
        go_simp
        first | done | with_reducible rfl
      simp only [Act.put, List.getElem_toArray, List.getElem_cons_succ, List.getElem_cons_zero, List.setIfInBounds_toArray, List.set_cons_zero, List.set_cons_succ]
      refine wpAnyH_take (i := 12) (v := ?_) rfl (by kernel_rfl) (by kernel_rfl) (by kernel_rfl) (fun _ _ _ h => h) (Or.inl ⟨by rfl, ?_⟩) hHeld ?_
      rotate_left
      · intro w hSw
        go_simp
        first | done | with_reducible rfl
      simp only [Act.put, List.getElem_toArray, List.getElem_cons_succ, List.getElem_cons_zero, List.setIfInBounds_toArray, List.set_cons_zero, List.set_cons_succ]
      refine wpAnyH_ready (rs := [3, 13]) (by kernel_rfl) (by simp) ?_
      refine AllReadyH.cons rfl (fun K hK => ?_) (AllReadyH.cons rfl (fun K hK => ?_) AllReadyH.nil)
      · go_simp
        go_fit (S1.out _ hHeld)
        rintro e w1 ⟨rfl, hbc⟩
        go_simp
        refine hK.out _ _ (hHeld.trans (hbc.mono hHeld.size)) (fun hHeld => ?_)
        clear hK K
        refine wpAnyH_ready (rs := [7, 13]) (by kernel_rfl) (by simp) ?_
        refine AllReadyH.cons rfl (fun K hK => ?_) (AllReadyH.cons rfl (fun K hK => ?_) AllReadyH.nil)
        · go_simp
          go_fit (S2.out _ hHeld)
          rintro e w2 ⟨rfl, hbc⟩
          go_simp
          refine hK.out _ _ (hHeld.trans (hbc.mono hHeld.size)) (fun hHeld => ?_)
          clear hK K
          refine wpAnyH_take (i := 8) (v := ?_) rfl (by kernel_rfl) (by kernel_rfl) (by kernel_rfl) (fun _ _ _ h => h) (Or.inl ⟨by rfl, ?_⟩) hHeld ?_
          rotate_left
          · intro w hSw
            go_simp
            first | done | with_reducible rfl
          simp only [Act.put, List.getElem_toArray, List.getElem_cons_succ, List.getElem_cons_zero, List.setIfInBounds_toArray, List.set_cons_zero, List.set_cons_succ]
          refine wpAnyH_ready (rs := [10, 13]) (by kernel_rfl) (by simp) ?_
          refine AllReadyH.cons rfl (fun K hK => ?_) (AllReadyH.cons rfl (fun K hK => ?_) AllReadyH.nil)
          · go_simp
            go_fit (S3.out _ hHeld)
            rintro e w3 ⟨rfl, hbc⟩
            go_simp
            refine hK.out _ _ (hHeld.trans (hbc.mono hHeld.size)) (fun hHeld => ?_)
            clear hK K
            refine wpAnyH_take (i := 11) (v := ?_) rfl (by kernel_rfl) (by kernel_rfl) (by kernel_rfl) (fun _ _ _ h => h) (Or.inl ⟨by rfl, ?_⟩) hHeld ?_
            rotate_left
            · intro w hSw
              go_simp
              first | done | with_reducible rfl
            simp only [Act.put, List.getElem_toArray, List.getElem_cons_succ, List.getElem_cons_zero, List.setIfInBounds_toArray, List.set_cons_zero, List.set_cons_succ]
            refine wpAnyH_ready (rs := [13]) (by kernel_rfl) (by simp) ?_
            refine AllReadyH.cons rfl (fun K hK => ?_) AllReadyH.nil
            obtain ⟨m4, hrun, hO, hb⟩ := run_make22 (w := w3) k (by omega)
            go_simp
            refine hK.out _ _ (hHeld.trans (hb.mono hHeld.size)) (fun hHeld => ?_)
            clear hK K
            have hM : Sl _ _ _ (List.replicate k 0) := Sl.own hO (by rw [List.length_replicate]; omega) (fun x hx => by rw [List.eq_of_mem_replicate hx]; omega)
            clear hO hb
            refine wpAnyH_ready (rs := [14]) (by kernel_rfl) (by simp) ?_
            refine AllReadyH.cons rfl (fun K hK => ?_) AllReadyH.nil
            go_simp
            go_fit (S4.out _ _ hM)
            rintro e w5 ⟨rfl, hbc⟩
            go_simp
            refine hK.out _ _ (hHeld.trans (hbc.mono hHeld.size)) (fun hHeld => ?_)
            clear hK K
            refine wpAnyH_take (i := 15) (v := ?_) rfl (by kernel_rfl) (by kernel_rfl) (by kernel_rfl) (fun _ _ _ h => h) (Or.inl ⟨by rfl, ?_⟩) hHeld ?_
            rotate_left
            · intro w hSw
              go_simp
              first | done | with_reducible rfl
            simp only [Act.put, List.getElem_toArray, List.getElem_cons_succ, List.getElem_cons_zero, List.setIfInBounds_toArray, List.set_cons_zero, List.set_cons_succ]
            refine wpAnyH_take (i := 16) (v := ?_) rfl (by kernel_rfl) (by kernel_rfl) (by kernel_rfl) (fun _ _ _ h => h) (Or.inl ⟨by rfl, ?_⟩) hHeld ?_
            rotate_left
            · intro w hSw
              go_simp
              first | done | with_reducible rfl
            simp only [Act.put, List.getElem_toArray, List.getElem_cons_succ, List.getElem_cons_zero, List.setIfInBounds_toArray, List.set_cons_zero, List.set_cons_succ]
            refine wpAnyH_take (i := 17) (v := ?_) rfl (by kernel_rfl) (by kernel_rfl) (by kernel_rfl) (fun _ _ _ h => h) (Or.inl ⟨by rfl, ?_⟩) hHeld ?_
            rotate_left
            · intro w hSw
              go_simp
              first | done | with_reducible rfl
            simp only [Act.put, List.getElem_toArray, List.getElem_cons_succ, List.getElem_cons_zero, List.setIfInBounds_toArray, List.set_cons_zero, List.set_cons_succ]
            refine wpAnyH_ready (rs := [18]) (by kernel_rfl) (by simp) ?_
            refine AllReadyH.cons rfl (fun K hK => ?_) AllReadyH.nil
            go_simp
            go_fit (wakes_any P _)
            rintro e w6 ⟨rfl, hbc⟩
            go_simp
            refine hK.out _ _ (hHeld.trans (hbc.mono hHeld.size)) (fun hHeld => ?_)
            clear hK K
            refine wpAnyH_take (i := 19) (v := ?_) rfl (by kernel_rfl) (by kernel_rfl) (by kernel_rfl) (fun _ _ _ h => h) (Or.inl ⟨by rfl, ?_⟩) hHeld ?_
            rotate_left
            · intro w hSw
              go_simp
              first | done | with_reducible rfl
            simp only [Act.put, List.getElem_toArray, List.getElem_cons_succ, List.getElem_cons_zero, List.setIfInBounds_toArray, List.set_cons_zero, List.set_cons_succ]
            refine wpAnyH_take (i := 20) (v := ?_) rfl (by kernel_rfl) (by kernel_rfl) (by kernel_rfl) (fun _ _ _ h => h) (Or.inl ⟨by rfl, ?_⟩) hHeld ?_
            rotate_left
            · intro w hSw
              go_simp
              first | done | with_reducible rfl
            simp only [Act.put, List.getElem_toArray, List.getElem_cons_succ, List.getElem_cons_zero, List.setIfInBounds_toArray, List.set_cons_zero, List.set_cons_succ]
            refine wpAnyH_done (by kernel_rfl) ?_ _
            refine NoPanic.normal ?_
            go_wp2
            go_ret
            exact ⟨rfl, HL.out.trans (hHeld.mono HL.out.size)⟩
          · obtain ⟨m7, hrun, hO, hb⟩ := run_make22 (w := w2) k (by omega)
            go_simp
            refine hK.out _ _ (hHeld.trans (hb.mono hHeld.size)) (fun hHeld => ?_)
            clear hK K
            have hM : Sl _ _ _ (List.replicate k 0) := Sl.own hO (by rw [List.length_replicate]; omega) (fun x hx => by rw [List.eq_of_mem_replicate hx]; omega)
            clear hO hb
            refine wpAnyH_ready (rs := [10]) (by kernel_rfl) (by simp) ?_
            refine AllReadyH.cons rfl (fun K hK => ?_) AllReadyH.nil
            go_simp
            go_fit (S3.out _ hHeld)
            rintro e w8 ⟨rfl, hbc⟩
            go_simp
            refine hK.out _ _ (hHeld.trans (hbc.mono hHeld.size)) (fun hHeld => ?_)
            clear hK K
            have hM := (hM.on hbc).mono hbc.size
            refine wpAnyH_take (i := 11) (v := ?_) rfl (by kernel_rfl) (by kernel_rfl) (by kernel_rfl) (fun _ _ _ h => h) (Or.inl ⟨by rfl, ?_⟩) hHeld ?_
            rotate_left
            · intro w hSw
              go_simp
              first | done | with_reducible rfl
            simp only [Act.put, List.getElem_toArray, List.getElem_cons_succ, List.getElem_cons_zero, List.setIfInBounds_toArray, List.set_cons_zero, List.set_cons_succ]
            refine wpAnyH_ready (rs := [14]) (by kernel_rfl) (by simp) ?_
            refine AllReadyH.cons rfl (fun K hK => ?_) AllReadyH.nil
            go_simp
            go_fit (S4.out _ _ hM)
            rintro e w9 ⟨rfl, hbc⟩
            go_simp
            refine hK.out _ _ (hHeld.trans (hbc.mono hHeld.size)) (fun hHeld => ?_)
            clear hK K
            refine wpAnyH_take (i := 15) (v := ?_) rfl (by kernel_rfl) (by kernel_rfl) (by kernel_rfl) (fun _ _ _ h => h) (Or.inl ⟨by rfl, ?_⟩) hHeld ?_
            rotate_left
            · intro w hSw
              go_simp
              first | done | with_reducible rfl
            simp only [Act.put, List.getElem_toArray, List.getElem_cons_succ, List.getElem_cons_zero, List.setIfInBounds_toArray, List.set_cons_zero, List.set_cons_succ]
            refine wpAnyH_take (i := 16) (v := ?_) rfl (by kernel_rfl) (by kernel_rfl) (by kernel_rfl) (fun _ _ _ h => h) (Or.inl ⟨by rfl, ?_⟩) hHeld ?_
            rotate_left
            · intro w hSw
              go_simp
              first | done | with_reducible rfl
            simp only [Act.put, List.getElem_toArray, List.getElem_cons_succ, List.getElem_cons_zero, List.setIfInBounds_toArray, List.set_cons_zero, List.set_cons_succ]
            refine wpAnyH_take (i := 17) (v := ?_) rfl (by kernel_rfl) (by kernel_rfl) (by kernel_rfl) (fun _ _ _ h => h) (Or.inl ⟨by rfl, ?_⟩) hHeld ?_
            rotate_left
            · intro w hSw
              go_simp
              first | done | with_reducible rfl
            simp only [Act.put, List.getElem_toArray, List.getElem_cons_succ, List.getElem_cons_zero, List.setIfInBounds_toArray, List.set_cons_zero, List.set_cons_succ]
            refine wpAnyH_ready (rs := [18]) (by kernel_rfl) (by simp) ?_
            refine AllReadyH.cons rfl (fun K hK => ?_) AllReadyH.nil
            go_simp
            go_fit (wakes_any P _)
            rintro e w10 ⟨rfl, hbc⟩
            go_simp
            refine hK.out _ _ (hHeld.trans (hbc.mono hHeld.size)) (fun hHeld => ?_)
            clear hK K
            refine wpAnyH_take (i := 19) (v := ?_) rfl (by kernel_rfl) (by kernel_rfl) (by kernel_rfl) (fun _ _ _ h => h) (Or.inl ⟨by rfl, ?_⟩) hHeld ?_
            rotate_left
            · intro w hSw
              go_simp
              first | done | with_reducible rfl
            simp only [Act.put, List.getElem_toArray, List.getElem_cons_succ, List.getElem_cons_zero, List.setIfInBounds_toArray, List.set_cons_zero, List.set_cons_succ]
            refine wpAnyH_take (i := 20) (v := ?_) rfl (by kernel_rfl) (by kernel_rfl) (by kernel_rfl) (fun _ _ _ h => h) (Or.inl ⟨by rfl, ?_⟩) hHeld ?_
            rotate_left
            · intro w hSw
              go_simp
              first | done | with_reducible rfl
            simp only [Act.put, List.getElem_toArray, List.getElem_cons_succ, List.getElem_cons_zero, List.setIfInBounds_toArray, List.set_cons_zero, List.set_cons_succ]
            refine wpAnyH_done (by kernel_rfl) ?_ _
            refine NoPanic.normal ?_
            go_wp2
            go_ret
            exact ⟨rfl, HL.out.trans (hHeld.mono HL.out.size)⟩
        · obtain ⟨m11, hrun, hO, hb⟩ := run_make22 (w := w1) k (by omega)
          go_simp
          refine hK.out _ _ (hHeld.trans (hb.mono hHeld.size)) (fun hHeld => ?_)
          clear hK K
          have hM : Sl _ _ _ (List.replicate k 0) := Sl.own hO (by rw [List.length_replicate]; omega) (fun x hx => by rw [List.eq_of_mem_replicate hx]; omega)
          clear hO hb
          refine wpAnyH_ready (rs := [7]) (by kernel_rfl) (by simp) ?_
          refine AllReadyH.cons rfl (fun K hK => ?_) AllReadyH.nil
          go_simp
          go_fit (S2.out _ hHeld)
          rintro e w12 ⟨rfl, hbc⟩
          go_simp
          refine hK.out _ _ (hHeld.trans (hbc.mono hHeld.size)) (fun hHeld => ?_)
          clear hK K
          have hM := (hM.on hbc).mono hbc.size
          refine wpAnyH_take (i := 8) (v := ?_) rfl (by kernel_rfl) (by kernel_rfl) (by kernel_rfl) (fun _ _ _ h => h) (Or.inl ⟨by rfl, ?_⟩) hHeld ?_
          rotate_left
          · intro w hSw
            go_simp
            first | done | with_reducible rfl
          simp only [Act.put, List.getElem_toArray, List.getElem_cons_succ, List.getElem_cons_zero, List.setIfInBounds_toArray, List.set_cons_zero, List.set_cons_succ]
          refine wpAnyH_ready (rs := [10]) (by kernel_rfl) (by simp) ?_
          refine AllReadyH.cons rfl (fun K hK => ?_) AllReadyH.nil
          go_simp
          go_fit (S3.out _ hHeld)
          rintro e w13 ⟨rfl, hbc⟩
          go_simp
          refine hK.out _ _ (hHeld.trans (hbc.mono hHeld.size)) (fun hHeld => ?_)
          clear hK K
          have hM := (hM.on hbc).mono hbc.size
          refine wpAnyH_take (i := 11) (v := ?_) rfl (by kernel_rfl) (by kernel_rfl) (by kernel_rfl) (fun _ _ _ h => h) (Or.inl ⟨by rfl, ?_⟩) hHeld ?_
          rotate_left
          · intro w hSw
            go_simp
            first | done | with_reducible rfl
          simp only [Act.put, List.getElem_toArray, List.getElem_cons_succ, List.getElem_cons_zero, List.setIfInBounds_toArray, List.set_cons_zero, List.set_cons_succ]
          refine wpAnyH_ready (rs := [14]) (by kernel_rfl) (by simp) ?_
          refine AllReadyH.cons rfl (fun K hK => ?_) AllReadyH.nil
          go_simp
          go_fit (S4.out _ _ hM)
          rintro e w14 ⟨rfl, hbc⟩
          go_simp
          refine hK.out _ _ (hHeld.trans (hbc.mono hHeld.size)) (fun hHeld => ?_)
          clear hK K
          refine wpAnyH_take (i := 15) (v := ?_) rfl (by kernel_rfl) (by kernel_rfl) (by kernel_rfl) (fun _ _ _ h => h) (Or.inl ⟨by rfl, ?_⟩) hHeld ?_
          rotate_left
          · intro w hSw
            go_simp
            first | done | with_reducible rfl
          simp only [Act.put, List.getElem_toArray, List.getElem_cons_succ, List.getElem_cons_zero, List.setIfInBounds_toArray, List.set_cons_zero, List.set_cons_succ]
          refine wpAnyH_take (i := 16) (v := ?_) rfl (by kernel_rfl) (by kernel_rfl) (by kernel_rfl) (fun _ _ _ h => h) (Or.inl ⟨by rfl, ?_⟩) hHeld ?_
          rotate_left
          · intro w hSw
            go_simp
            first | done | with_reducible rfl
          simp only [Act.put, List.getElem_toArray, List.getElem_cons_succ, List.getElem_cons_zero, List.setIfInBounds_toArray, List.set_cons_zero, List.set_cons_succ]
          refine wpAnyH_take (i := 17) (v := ?_) rfl (by kernel_rfl) (by kernel_rfl) (by kernel_rfl) (fun _ _ _ h => h) (Or.inl ⟨by rfl, ?_⟩) hHeld ?_
          rotate_left
          · intro w hSw
            go_simp
            first | done | with_reducible rfl
          simp only [Act.put, List.getElem_toArray, List.getElem_cons_succ, List.getElem_cons_zero, List.setIfInBounds_toArray, List.set_cons_zero, List.set_cons_succ]
          refine wpAnyH_ready (rs := [18]) (by kernel_rfl) (by simp) ?_
          refine AllReadyH.cons rfl (fun K hK => ?_) AllReadyH.nil
          go_simp
          go_fit (wakes_any P _)
          rintro e w15 ⟨rfl, hbc⟩
          go_simp
          refine hK.out _ _ (hHeld.trans (hbc.mono hHeld.size)) (fun hHeld => ?_)
          clear hK K
          refine wpAnyH_take (i := 19) (v := ?_) rfl (by kernel_rfl) (by kernel_rfl) (by kernel_rfl) (fun _ _ _ h => h) (Or.inl ⟨by rfl, ?_⟩) hHeld ?_
          rotate_left
          · intro w hSw
            go_simp
            first | done | with_reducible rfl
          simp only [Act.put, List.getElem_toArray, List.getElem_cons_succ, List.getElem_cons_zero, List.setIfInBounds_toArray, List.set_cons_zero, List.set_cons_succ]
          refine wpAnyH_take (i := 20) (v := ?_) rfl (by kernel_rfl) (by kernel_rfl) (by kernel_rfl) (fun _ _ _ h => h) (Or.inl ⟨by rfl, ?_⟩) hHeld ?_
          rotate_left
          · intro w hSw
            go_simp
            first | done | with_reducible rfl
          simp only [Act.put, List.getElem_toArray, List.getElem_cons_succ, List.getElem_cons_zero, List.setIfInBounds_toArray, List.set_cons_zero, List.set_cons_succ]
          refine wpAnyH_done (by kernel_rfl) ?_ _
          refine NoPanic.normal ?_
          go_wp2
          go_ret
          exact ⟨rfl, HL.out.trans (hHeld.mono HL.out.size)⟩
      · obtain ⟨m16, hrun, hO, hb⟩ := run_make22 (w := wr.drew) k (by omega)
        go_simp
        refine hK.out _ _ (hHeld.trans (hb.mono hHeld.size)) (fun hHeld => ?_)
        clear hK K
        have hM : Sl _ _ _ (List.replicate k 0) := Sl.own hO (by rw [List.length_replicate]; omega) (fun x hx => by rw [List.eq_of_mem_replicate hx]; omega)
        clear hO hb
        refine wpAnyH_ready (rs := [3]) (by kernel_rfl) (by simp) ?_
        refine AllReadyH.cons rfl (fun K hK => ?_) AllReadyH.nil
        go_simp
        go_fit (S1.out _ hHeld)
        rintro e w17 ⟨rfl, hbc⟩
        go_simp
        refine hK.out _ _ (hHeld.trans (hbc.mono hHeld.size)) (fun hHeld => ?_)
        clear hK K
        have hM := (hM.on hbc).mono hbc.size
        refine wpAnyH_ready (rs := [7]) (by kernel_rfl) (by simp) ?_
        refine AllReadyH.cons rfl (fun K hK => ?_) AllReadyH.nil
        go_simp
        go_fit (S2.out _ hHeld)
        rintro e w18 ⟨rfl, hbc⟩
        go_simp
        refine hK.out _ _ (hHeld.trans (hbc.mono hHeld.size)) (fun hHeld => ?_)
        clear hK K
        have hM := (hM.on hbc).mono hbc.size
        refine wpAnyH_take (i := 8) (v := ?_) rfl (by kernel_rfl) (by kernel_rfl) (by kernel_rfl) (fun _ _ _ h => h) (Or.inl ⟨by rfl, ?_⟩) hHeld ?_
        rotate_left
        · intro w hSw
          go_simp
          first | done | with_reducible rfl
        simp only [Act.put, List.getElem_toArray, List.getElem_cons_succ, List.getElem_cons_zero, List.setIfInBounds_toArray, List.set_cons_zero, List.set_cons_succ]
        refine wpAnyH_ready (rs := [10]) (by kernel_rfl) (by simp) ?_
        refine AllReadyH.cons rfl (fun K hK => ?_) AllReadyH.nil
        go_simp
        go_fit (S3.out _ hHeld)
        rintro e w19 ⟨rfl, hbc⟩
        go_simp
        refine hK.out _ _ (hHeld.trans (hbc.mono hHeld.size)) (fun hHeld => ?_)
        clear hK K
        have hM := (hM.on hbc).mono hbc.size
        refine wpAnyH_take (i := 11) (v := ?_) rfl (by kernel_rfl) (by kernel_rfl) (by kernel_rfl) (fun _ _ _ h => h) (Or.inl ⟨by rfl, ?_⟩) hHeld ?_
        rotate_left
        · intro w hSw
          go_simp
          first | done | with_reducible rfl
        simp only [Act.put, List.getElem_toArray, List.getElem_cons_succ, List.getElem_cons_zero, List.setIfInBounds_toArray, List.set_cons_zero, List.set_cons_succ]
        refine wpAnyH_ready (rs := [14]) (by kernel_rfl) (by simp) ?_
        refine AllReadyH.cons rfl (fun K hK => ?_) AllReadyH.nil
        go_simp
        go_fit (S4.out _ _ hM)
        rintro e w20 ⟨rfl, hbc⟩
        go_simp
        refine hK.out _ _ (hHeld.trans (hbc.mono hHeld.size)) (fun hHeld => ?_)
        clear hK K
        refine wpAnyH_take (i := 15) (v := ?_) rfl (by kernel_rfl) (by kernel_rfl) (by kernel_rfl) (fun _ _ _ h => h) (Or.inl ⟨by rfl, ?_⟩) hHeld ?_
        rotate_left
        · intro w hSw
          go_simp
          first | done | with_reducible rfl
        simp only [Act.put, List.getElem_toArray, List.getElem_cons_succ, List.getElem_cons_zero, List.setIfInBounds_toArray, List.set_cons_zero, List.set_cons_succ]
        refine wpAnyH_take (i := 16) (v := ?_) rfl (by kernel_rfl) (by kernel_rfl) (by kernel_rfl) (fun _ _ _ h => h) (Or.inl ⟨by rfl, ?_⟩) hHeld ?_
        rotate_left
        · intro w hSw
          go_simp
          first | done | with_reducible rfl
        simp only [Act.put, List.getElem_toArray, List.getElem_cons_succ, List.getElem_cons_zero, List.setIfInBounds_toArray, List.set_cons_zero, List.set_cons_succ]
        refine wpAnyH_take (i := 17) (v := ?_) rfl (by kernel_rfl) (by kernel_rfl) (by kernel_rfl) (fun _ _ _ h => h) (Or.inl ⟨by rfl, ?_⟩) hHeld ?_
        rotate_left
        · intro w hSw
          go_simp
          first | done | with_reducible rfl
        simp only [Act.put, List.getElem_toArray, List.getElem_cons_succ, List.getElem_cons_zero, List.setIfInBounds_toArray, List.set_cons_zero, List.set_cons_succ]
        refine wpAnyH_ready (rs := [18]) (by kernel_rfl) (by simp) ?_
        refine AllReadyH.cons rfl (fun K hK => ?_) AllReadyH.nil
        go_simp
        go_fit (wakes_any P _)
        rintro e w21 ⟨rfl, hbc⟩
        go_simp
        refine hK.out _ _ (hHeld.trans (hbc.mono hHeld.size)) (fun hHeld => ?_)
        clear hK K
        refine wpAnyH_take (i := 19) (v := ?_) rfl (by kernel_rfl) (by kernel_rfl) (by kernel_rfl) (fun _ _ _ h => h) (Or.inl ⟨by rfl, ?_⟩) hHeld ?_
        rotate_left
        · intro w hSw
          go_simp
          first | done | with_reducible rfl
        simp only [Act.put, List.getElem_toArray, List.getElem_cons_succ, List.getElem_cons_zero, List.setIfInBounds_toArray, List.set_cons_zero, List.set_cons_succ]
        refine wpAnyH_take (i := 20) (v := ?_) rfl (by kernel_rfl) (by kernel_rfl) (by kernel_rfl) (fun _ _ _ h => h) (Or.inl ⟨by rfl, ?_⟩) hHeld ?_
        rotate_left
        · intro w hSw
          go_simp
          first | done | with_reducible rfl
        simp only [Act.put, List.getElem_toArray, List.getElem_cons_succ, List.getElem_cons_zero, List.setIfInBounds_toArray, List.set_cons_zero, List.set_cons_succ]
        refine wpAnyH_done (by kernel_rfl) ?_ _
        refine NoPanic.normal ?_
        go_wp2
        go_ret
        exact ⟨rfl, HL.out.trans (hHeld.mono HL.out.size)⟩
end Go.Proofs.Ytdkmdabjhapdeaa
