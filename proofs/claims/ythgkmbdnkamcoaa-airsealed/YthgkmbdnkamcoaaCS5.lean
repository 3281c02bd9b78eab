/-
  Proved here: Seal and Open of package crc answer what 'seE', 'seL', 'opE', 'opL' say, for every bytes that a slice holds; no old memory turns. No condition.
-/
import Derived.Test.YthgkmbdnkamcoaaCS4
namespace Go.Proofs.Ythgkmbdnkamcoaa
open Go.RowKit Seal

/-- Room for n bytes, of which none is there yet. -/
theorem mk0 {ops : Array Oper} {rest : List Oper} {o : Oper} {a : Act} {w : World} {Q : Exit → Act → World → Prop} (l c : Operand) (ho : o.op = .makeSlice 31 l c) (hg : o.guard = none) (n : Nat) (hl : a.eval l = .int .i64 0) (hc : a.eval c = .int .i64 ((n : Int) + 4)) (hn : n ≤ 16384)
    (h : ∀ w', Owns w.heap.size w' (.slice (some ⟨w.heap.size, 0, none⟩) 0 (n + 4)) [] → Below w.heap.size w w' → wpList Try.prog ops Q rest (a.put o.dst (.slice (some ⟨w.heap.size, 0, none⟩) 0 (n + 4))) w') : wpList Try.prog ops Q (o :: rest) a w := by
  obtain ⟨i, hi, hz0, hz1, hz2⟩ := info_parts info5
  exact wpList_make_own w hg l c 31 ho w.heap.size 5 i (.int .u8 0) 1 Try.underlying31 hi hz0 hz1 .i64 .i64 _ (n + 4) hl hc (by omega) (by rw [hz2]; omega) (by unfold maxLen; omega) (Nat.le_refl _) fun w' h1 h2 => h w' h1 ⟨h2.os, h2.tape, h2.output, h2.size, fun k hk => h2.block k hk (by simp)⟩
theorem sl_c4 (w : World) (n : Nat) : Sl (w.heap.size + 1) (w.alloc (.cells (c4 n) 57)) (.slice (some ⟨w.heap.size, 0, none⟩) 4 4) (four n) :=
  ⟨_, 4, rfl, Nat.le_refl 4, by simp [four], four_isB n, (fun h => by cases h), fun _ => ⟨w.heap.size, 0, by omega, rfl, fun j hj => by
    rw [Nat.zero_add, World.cell?_alloc_new]
    have : j = 0 ∨ j = 1 ∨ j = 2 ∨ j = 3 := by simp [four] at hj; omega
    rcases this with rfl | rfl | rfl | rfl <;> rfl⟩⟩

set_option maxHeartbeats 800000 in
/-- WHAT Seal ANSWERS. -/
theorem seal_any (B : Nat) (v : Value) (bs : List Int) (w : World) (hs : Sl B w v bs) (hB : B ≤ w.heap.size) :
    Calls Try.prog 18 #[v] w fun e w' => ∃ v', e = .returned (.tuple #[v', .int .i64 (seE bs)]) ∧ Below w.heap.size w w' ∧ Owns w.heap.size w' v' (seL bs) := by
  have hlen := hs.len
  have HS : Hid (Sl B w v bs) := hs
  obtain ⟨ao, cap, rfl, _⟩ := hs
  by_cases hl : 16384 < bs.length
  · have hd : decide ((16384 : Int) < (bs.length : Int)) = true := by simp; omega
    have HE : Hid (seE bs = 3 ∧ seL bs = []) := by show _ ∧ _; simp [seE, seL, hl]
    clear HS hl
    go_enter Try.func18, Try.ntmps18
    go_wp2
    go_ret2
    exact ⟨nilS, by rw [HE.out.1]; rfl, Below.refl _ _, by rw [HE.out.2]; exact Owns.isNil⟩
  · have hd : decide ((16384 : Int) < (bs.length : Int)) = false := by simp; omega
    have HE : Hid (seE bs = 0 ∧ seL bs = bs ++ four (crc bs)) := by show _ ∧ _; simp [seE, seL, hl]
    have HLEN : Hid (bs.length ≤ 16384) := by show _ ≤ _; omega
    have hn32 := crc_lt32 HS.out.isB
    obtain ⟨n, hn⟩ : ∃ n, n = crc bs := ⟨_, rfl⟩
    have HN : Hid (n = crc bs) := hn
    have HC : Hid (Calls Try.prog 26 #[.slice ao bs.length cap] w fun e w' => e = .returned (.int .u32 n) ∧ Below w.heap.size w w') := by
      have := sum_any B _ bs w HS.out hB
      rw [← hn] at this
      exact this
    have HW : Hid (∀ w, Calls Try.prog 25 #[.int .u32 (n : Nat)] w fun e w' => e = .returned (.agg (c4 n)) ∧ Below w.heap.size w w') := written_any n (hn ▸ hn32)
    clear hl hn hn32
    go_enter Try.func18, Try.ntmps18
    go_upto_region 4 with (first | (go_at_call 26; refine (HC.out).mono ?_; rintro e w1 ⟨rfl, hb1⟩) | (go_at_call 25; refine (HW.out _).mono ?_; rintro e w2 ⟨rfl, hb2⟩))
    have l3 : Below w2.heap.size w2 (w2.alloc (.cells (c4 n) 57)) := (Below.refl _ _).alloc (Nat.le_refl _) _
    have hL2 : Below w.heap.size w w2 := hb1.trans (hb2.mono hb1.size)
    have HL3 : Hid (Below w.heap.size w (w2.alloc (.cells (c4 n) 57))) := hL2.trans (l3.mono hL2.size)
    have HF : Hid (Sl (w2.heap.size + 1) (w2.alloc (.cells (c4 n) 57)) (.slice (some ⟨w2.heap.size, 0, none⟩) 4 4) (four n)) := sl_c4 w2 n
    have HG : Hid (w2.heap.size + 1 ≤ (w2.alloc (.cells (c4 n) 57)).heap.size) := by show _ ≤ _; simp
    have HS3 : Hid (Sl B (w2.alloc (.cells (c4 n) 57)) (.slice ao bs.length cap) bs) := HS.out.on (HL3.out.mono hB)
    clear hb1 hb2 l3 hL2 HC HW HS
    generalize w2.alloc (.cells (c4 n) 57) = w3 at HL3 HF HG HS3 ⊢
    generalize w2.heap.size = g at HF HG ⊢
    go_wp2_with (first
      | (at_make; refine mk0 (.const (.int .i64 0)) (.tmp 14) rfl rfl bs.length rfl rfl HLEN.out ?_; intro w4 HO4 hb4; have HO4' : Hid (Owns w3.heap.size w4 (.slice (some ⟨w3.heap.size, 0, none⟩) 0 (bs.length + 4)) []) := HO4; have HB4 : Hid (Below w3.heap.size w3 w4) := hb4; clear HO4 hb4)
      | (at_builtin; refine app22 (.tmp 16) (.tmp 17) rfl rfl rfl rfl HO4'.out (HS3.out.on (HB4.out.mono (Nat.le_trans hB HL3.out.size))) HB4.out.size (by have := HLEN.out; simp only [List.length_nil]; omega) ?_; intro v5 w5 X5)
      | (at_builtin; refine app22 (.tmp 19) (.tmp 20) rfl rfl rfl rfl X5.own (HF.out.on ((HB4.out.trans (X5.below HO4'.out HB4.out.size)).mono HG.out)) (Nat.le_trans HB4.out.size X5.grown.size) (by have := HLEN.out; simp [four]; omega) ?_; intro v6 w6 X6))
    have X : Ext w3.heap.size w4 (.slice (some ⟨w3.heap.size, 0, none⟩) 0 (bs.length + 4)) w6 v6 (bs ++ four n) := (show Ext w3.heap.size w4 (.slice (some ⟨w3.heap.size, 0, none⟩) 0 (bs.length + 4)) w5 v5 bs from X5).trans X6
    go_ret2
    have hlow : Below w3.heap.size w3 w6 := HB4.out.trans (X.below HO4'.out HB4.out.size)
    exact ⟨v6, by rw [HE.out.1]; rfl, HL3.out.trans (hlow.mono HL3.out.size), by rw [HE.out.2, ← HN.out]; exact Joins.ownsRow_le X.own HL3.out.size⟩

/-- The end of a slice. -/
theorem Sl.suf {B : Nat} {w : World} {b o cap : Nat} {bs : List Int} {k m : Nat} (h : Sl B w (.slice (some ⟨b, o, none⟩) bs.length cap) bs) (hk : bs.length = k + m) : Sl B w (.slice (some ⟨b, o + k, none⟩) m (cap - k)) (bs.drop k) := by
  obtain ⟨ao', cap', e, h1, h2, h3, h4, h5⟩ := h
  simp only [Value.slice.injEq] at e
  obtain ⟨rfl, _, rfl⟩ := e
  have hl : (bs.drop k).length = m := by rw [List.length_drop]; omega
  refine ⟨_, cap - k, by rw [hl], by omega, by omega, fun x hx => h3 x (List.mem_of_mem_drop hx), (fun h => by cases h), fun hne => ?_⟩
  obtain ⟨b', o', hb, e, hc⟩ := h5 (fun e => by subst e; simp at hne)
  simp only [Option.some.injEq, Addr.mk.injEq] at e
  obtain ⟨rfl, rfl, _⟩ := e
  refine ⟨b, o + k, hb, rfl, fun j hj => ?_⟩
  rw [hl] at hj
  rw [Nat.add_assoc, hc (k + j) (by omega)]
  simp only [List.getD_eq_getElem?_getD, List.getElem?_drop]
theorem opE_four {bs : List Int} {k n : Nat} (hB : IsB bs) (hk : bs.length = k + 4) (hn : n = crc (bs.take k)) : opE bs = if bs.drop k == four n then 0 else 50 := by
  have h32 : n < 4294967296 := hn ▸ crc_lt32 (hB.take k)
  have hd := drop4 (bs := bs) (by omega)
  rw [show bs.length - 4 = k by omega] at hd
  rw [opE_eq hk, hd, ← hn]
  have x0 := hB.at k; have x1 := hB.at (k + 1); have x2 := hB.at (k + 2); have x3 := hB.at (k + 3)
  generalize bs.getD k 0 = a at *
  generalize bs.getD (k + 1) 0 = b1 at *
  generalize bs.getD (k + 2) 0 = b2 at *
  generalize bs.getD (k + 3) 0 = b3 at *
  by_cases h : (n : Int) = a + b1 * 256 + b2 * 65536 + b3 * 16777216
  · have e : four n = [a, b1, b2, b3] := by
      unfold four
      rw [show (n : Int) % 256 = a by omega, show (n : Int) / 256 % 256 = b1 by omega, show (n : Int) / 65536 % 256 = b2 by omega, show (n : Int) / 16777216 % 256 = b3 by omega]
    rw [if_pos h, e]; simp
  · have e : ([a, b1, b2, b3] == four n) = false := by
      rw [beq_eq_false_iff_ne]
      intro e
      simp only [four, List.cons.injEq, and_true] at e
      omega
    rw [if_neg h, e]; rfl

set_option maxHeartbeats 1600000 in
/-- WHAT Open ANSWERS. -/
theorem open_any (B : Nat) (v : Value) (bs : List Int) (w : World) (hs : Sl B w v bs) (hB : B ≤ w.heap.size) :
    Calls Try.prog 20 #[v] w fun e w' => ∃ v', e = .returned (.tuple #[v', .int .i64 (opE bs)]) ∧ Below w.heap.size w w' ∧ Owns w.heap.size w' v' (opL bs) := by
  have hlen := hs.len
  have HS : Hid (Sl B w v bs) := hs
  obtain ⟨ao, cap, rfl, hcap, _, hI, _, q5⟩ := hs
  by_cases hl : bs.length < 4
  · have hd : decide ((bs.length : Int) - 4 < 0) = true := by simp; omega
    have HE : Hid (opE bs = 51 ∧ opL bs = []) := by show _ ∧ _; simp [opL, opE, hl]
    clear HS q5 hI
    go_enter Try.func20, Try.ntmps20
    go_wp2
    go_ret2
    exact ⟨nilS, by rw [HE.out.1]; rfl, Below.refl _ _, by rw [HE.out.2]; exact Owns.isNil⟩
  · obtain ⟨k, hk⟩ : ∃ k, bs.length = k + 4 := ⟨bs.length - 4, by omega⟩
    obtain ⟨b, o, _, rfl, _⟩ := q5 (fun e => by subst e; simp at hl)
    obtain ⟨n, hn⟩ : ∃ n, n = crc (bs.take k) := ⟨_, rfl⟩
    have hE := opE_four hI hk hn
    have hL := opL_eq hk
    have hP := HS.out.pre k (by omega)
    have hSu : Sl B w (.slice (some ⟨b, o + k, none⟩) 4 (cap - k)) (bs.drop k) := HS.out.suf hk
    have n32 : n < 4294967296 := hn ▸ crc_lt32 (hI.take k)
    have HTL : Hid ((bs.take k).length = k) := by show _ = _; rw [List.length_take]; omega
    rw [hk] at hlen hcap ⊢
    have HC : Hid (Calls Try.prog 26 #[.slice (some ⟨b, o, none⟩) k cap] w fun e w' => e = .returned (.int .u32 n) ∧ Below w.heap.size w w') := by
      have := sum_any B _ (bs.take k) w hP hB
      rw [← hn] at this
      exact this
    have HW : Hid (∀ w, Calls Try.prog 25 #[.int .u32 (n : Nat)] w fun e w' => e = .returned (.agg (c4 n)) ∧ Below w.heap.size w w') := written_any n n32
    have HP : Hid (Sl B w (.slice (some ⟨b, o, none⟩) k cap) (bs.take k)) := hP
    have HSu : Hid (Sl B w (.slice (some ⟨b, o + k, none⟩) 4 (cap - k)) (bs.drop k)) := hSu
    have HEE : Hid (opE bs = if bs.drop k == four n then 0 else 50) := hE
    have HLL : Hid (opE bs = 0 → opL bs = bs.take k) := hL
    clear hE hL hP hSu hn n32 q5 hI HS hk hl
    go_enter Try.func20, Try.ntmps20
    go_upto_region 5 with (first | (go_at_call 26; refine (HC.out).mono ?_; rintro e w1 ⟨rfl, hb1⟩) | (go_at_call 25; refine (HW.out _).mono ?_; rintro e w2 ⟨rfl, hb2⟩))
    have l3 : Below w2.heap.size w2 (w2.alloc (.cells (c4 n) 57)) := (Below.refl _ _).alloc (Nat.le_refl _) _
    have hL2 : Below w.heap.size w w2 := hb1.trans (hb2.mono hb1.size)
    have hL3 : Below w.heap.size w (w2.alloc (.cells (c4 n) 57)) := hL2.trans (l3.mono hL2.size)
    have HL3 : Hid (Below w.heap.size w (w2.alloc (.cells (c4 n) 57))) := hL3
    have HF : Hid (Sl (w2.alloc (.cells (c4 n) 57)).heap.size (w2.alloc (.cells (c4 n) 57)).drew (.slice (some ⟨w2.heap.size, 0, none⟩) 4 4) (four n)) := ((sl_c4 w2 n).mono (by simp)).drew
    have HS3 : Hid (Sl (w2.alloc (.cells (c4 n) 57)).heap.size (w2.alloc (.cells (c4 n) 57)).drew (.slice (some ⟨b, o + k, none⟩) 4 (cap - k)) (bs.drop k)) := ((HSu.out.on (hL3.mono hB)).mono (Nat.le_trans hB hL3.size)).drew
    have HP3 : Hid (Sl B (w2.alloc (.cells (c4 n) 57)).drew (.slice (some ⟨b, o, none⟩) k cap) (bs.take k)) := (HP.out.on (hL3.mono hB)).drew
    clear hb1 hb2 l3 hL2 hL3 HC HW HSu HP
    generalize w2.alloc (.cells (c4 n) 57) = w3 at HL3 HF HS3 HP3 ⊢
    generalize w2.heap.size = g at HF ⊢
    obtain ⟨q, hq⟩ : ∃ q, q = (bs.drop k == four n) := ⟨_, rfl⟩
    have HQ : Hid (Calls Try.prog 27 #[.slice (some ⟨b, o + k, none⟩) 4 (cap - k), .slice (some ⟨g, 0, none⟩) 4 4] w3.drew fun e w' => e = .returned (.bool q) ∧ w' = w3.drew) := by
      have := equal_any w3.heap.size _ _ _ _ w3.drew HS3.out HF.out
      rw [← hq] at this
      exact this
    have HCl : Hid (Calls Try.prog 28 #[.slice (some ⟨b, o, none⟩) k cap] w3.drew fun e w' => ∃ v, e = .returned v ∧ Below w3.heap.size w3.drew w' ∧ Owns w3.heap.size w' v (bs.take k)) := by
      have hP := HP3.out
      have hT := HTL.out
      have := bclone_any B ⟨b, o, none⟩ cap (bs.take k) w3.drew (by rw [hT]; exact hP) (Nat.le_trans hB HL3.out.size)
      rw [hT] at this
      exact this
    have HL4 : Hid (Below w.heap.size w w3.drew) := HL3.out.drew
    have HE2 : Hid (opE bs = if q then 0 else 50) := by show _ = _; rw [hq]; exact HEE.out
    clear hq HEE HF HS3 HP3 HTL
    have hnot : ∀ (x : Bool) (w : World), (Op.unary .not (.bool x)).run Try.prog w = .ok (.bool (!x)) w := fun _ _ => rfl
    cases q with
    | true =>
      have e0 : opE bs = 0 := by rw [HE2.out]; rfl
      have HE : Hid (opE bs = 0 ∧ opL bs = bs.take k) := ⟨e0, HLL.out e0⟩
      clear e0 HE2 HLL
      go_region_with (go_at_call 27; refine (HQ.out).mono ?_; rintro e w' ⟨rfl, rfl⟩)
      go_wp2_with (go_at_call 28; refine (HCl.out).mono ?_; rintro e w5 ⟨v5, rfl, hb5, hO5⟩)
      go_ret2
      exact ⟨v5, by rw [HE.out.1]; rfl, HL4.out.trans (hb5.mono HL3.out.size), by rw [HE.out.2]; exact Joins.ownsRow_le hO5 HL3.out.size⟩
    | false =>
      have e0 : opE bs = 50 := by rw [HE2.out]; rfl
      have HE : Hid (opE bs = 50 ∧ opL bs = []) := ⟨e0, by unfold opL; rw [e0]; rfl⟩
      clear e0 HE2 HLL HCl
      go_region_with (go_at_call 27; refine (HQ.out).mono ?_; rintro e w' ⟨rfl, rfl⟩)
      go_wp2
      go_ret2
      exact ⟨nilS, by rw [HE.out.1]; rfl, HL4.out, by rw [HE.out.2]; exact Owns.isNil⟩

end Go.Proofs.Ythgkmbdnkamcoaa
