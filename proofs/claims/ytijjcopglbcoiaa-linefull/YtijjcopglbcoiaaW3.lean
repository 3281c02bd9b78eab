/-
  Proved here: wakes of the statements' package returns true; no old memory turns. Condition: the seven functions of package line serve ends ('Api').
-/
import Derived.Test.YtijjcopglbcoiaaW2
import Derived.Lib.SlBytesConst
namespace Go.Proofs.Ytijjcopglbcoiaa
open Go.RowKit Seal

abbrev PApi := Api 11 17 18 20 19 15 21

theorem sl_k1 (w : World) (x : Int) (h0 : 0 ≤ x) (h1 : x < 256) : Sl (w.heap.size + 1) (w.alloc (.cells #[.int .u8 x] 5 (1, 2))) (.slice (some ⟨w.heap.size, 0, none⟩) 1 1) [x] :=
  ⟨_, 1, rfl, by simp, by simp, IsB.cons h0 h1 IsB.nil, (fun h => by cases h), fun _ => ⟨w.heap.size, 0, by omega, rfl, fun j hj => by
    have : j = 0 := by simpa using hj
    subst this
    rw [Nat.zero_add, World.cell?_alloc_mark w]; rfl⟩⟩
theorem conv1 (w : World) (x : Int) : (convert 31 31 (.slice (some ⟨w.heap.size, 0, none⟩) 1 1)).run Try.prog (w.alloc (.cells #[.int .u8 x] 5)) = .ok (.slice (some ⟨w.heap.size, 0, none⟩) 1 1) (w.alloc (.cells #[.int .u8 x] 5 (1, 2))) := Lib.run_convert_bytes_const w 31 5 #[.int .u8 x] 1 1 Try.underlying31 Try.underlying5
/-- A constant's byte is laid down, in the colour i. -/
theorem lay1 (c : Nat → Nat) (i : Nat) (w : World) (x : Int) (h0 : 0 ≤ x) (h1 : x < 256) : SlC (Col (tint c w.heap.size i) i) (w.alloc (.cells #[.int .u8 x] 5 (1, 2))) (.slice (some ⟨w.heap.size, 0, none⟩) 1 1) [x] ∧ Keep c (tint c w.heap.size i) i w (w.alloc (.cells #[.int .u8 x] 5 (1, 2))) := by
  refine ⟨?_, Keep.alloc c i w _⟩
  obtain ⟨ao, cap, e, h2, h3, h4, h5, h6⟩ := sl_k1 w x h0 h1
  simp only [Value.slice.injEq] at e
  obtain ⟨rfl, _, rfl⟩ := e
  refine ⟨_, 1, rfl, h2, h3, h4, h5, fun hne => ?_⟩
  obtain ⟨b, o, hb, e, hc⟩ := h6 hne
  simp only [Option.some.injEq, Addr.mk.injEq] at e
  obtain ⟨rfl, rfl, _⟩ := e
  exact ⟨w.heap.size, 0, tint_new (Nat.le_refl _), rfl, hc⟩
theorem SlC.ne {c : Nat → Nat} {i j : Nat} {w : World} {v : Value} {bs : List Int} (h : SlC (Col c j) w v bs) (hj : j ≠ i) : SlC (fun k => c k ≠ i) w v bs := h.mono fun k hk => by
  have : c k = j := hk
  show c k ≠ i
  omega
/-- The one row of a list of one. -/
theorem Ls.one {S : Nat → Prop} {w : World} {v : Value} {m : List Int} (h : Ls S w v [m]) : ∃ b o cap ua uc, v = .slice (some ⟨b, o, none⟩) 1 cap ∧ w.cell? ⟨b, o, none⟩ = some (.slice ua m.length uc) ∧ SlC S w (.slice ua m.length uc) m := by
  obtain ⟨ao, cap, rfl, -, -, -, h6⟩ := h
  obtain ⟨b, o, -, rfl, hcl⟩ := h6 (by simp)
  obtain ⟨u, hu, hs⟩ := hcl 0 (by simp)
  have hs' : SlC S w u m := by simpa using hs
  obtain ⟨ua, uc, rfl, -⟩ := id hs'
  exact ⟨b, o, cap, ua, uc, rfl, by simpa using hu, hs'⟩

abbrev kx : List (List Int) := [[120], [121]]
abbrev ka : E := ⟨3, kx, 0, 0, []⟩
theorem kx_b : AllB kx := AllB.cons (isB_of (by decide)) (AllB.cons (isB_of (by decide)) AllB.nil)
theorem k_send1 : sdE (E.mk0 3) [120] = 0 ∧ sdS (E.mk0 3) [120] = ⟨3, [[120]], 0, 0, []⟩ := ⟨rfl, rfl⟩
theorem k_send2 : sdE ⟨3, [[120]], 0, 0, []⟩ [121] = 0 ∧ sdS ⟨3, [[120]], 0, 0, []⟩ [121] = ka := ⟨rfl, rfl⟩
theorem k_tick1 : tkL ka = dat (bodyOf 3 0 0 kx) := rfl
theorem k_take1 : taE (tkL ka) = 0 ∧ taS (E.mk0 3) (tkL ka) = ⟨3, [], 0, 2, kx⟩ := by
  have h := take_dat (p := 3) (c := 0) (g := 0) kx_b (by decide) (by decide) (by decide) (by decide) (by decide) (E.mk0 3)
  rw [k_tick1]; exact ⟨h.1, h.2.trans rfl⟩
theorem k_take2 : taS ⟨3, [], 0, 2, kx⟩ (tkL ka) = ⟨3, [], 0, 2, kx⟩ := by
  have h := take_dat (p := 3) (c := 0) (g := 0) kx_b (by decide) (by decide) (by decide) (by decide) (by decide) ⟨3, [], 0, 2, kx⟩
  rw [k_tick1]; exact h.2.trans rfl
theorem k_tick2 : tkL ⟨3, [], 0, 2, []⟩ = dat (bodyOf 3 2 0 []) := rfl
theorem k_take3 : taE (tkL ⟨3, [], 0, 2, []⟩) = 0 ∧ taS ka (tkL ⟨3, [], 0, 2, []⟩) = ⟨3, [], 2, 0, []⟩ := by
  have h := take_dat (p := 3) (c := 2) (g := 0) AllB.nil (by decide) (by decide) (by decide) (by decide) (by decide) ka
  rw [k_tick2]; exact ⟨h.1, h.2.trans rfl⟩
theorem k_len : (tkL ⟨3, [], 0, 2, []⟩).length = 18 := by rw [k_tick2, dat_len, bodyOf_len]; rfl
theorem fit3 {s g c n} (h1 : s.length ≤ 2) (h2 : g ≤ 2) (h3 : c ≤ 2) (h4 : n.length ≤ 2) (h5 : ∀ m ∈ s, m.length ≤ 8192) : Fit ⟨3, s, g, c, n⟩ := ⟨by simp, by simp; omega, by simp; omega, by simp; omega, h5⟩

/-- Two ends of package line, in a world that has grown out of w0. -/
structure S2 (A : PApi) (w0 w : World) (c : Nat → Nat) (va vb : Value) (ea eb : E) : Prop where
  low : Below w0.heap.size w0 w
  old : ∀ k, k < w0.heap.size → c k = 0
  a : A.PE (Col c 1) w va ea
  b : A.PE (Col c 2) w vb eb
section
variable {A : PApi} {w0 w : World} {c : Nat → Nat} {va vb : Value} {ea eb : E}
/-- Memory of another colour turns. -/
theorem S2.other (h : S2 A w0 w c va vb ea eb) {c' : Nat → Nat} {w' : World} {i : Nat} (k : Keep c c' i w w') (h0 : i ≠ 0) (h1 : i ≠ 1) (h2 : i ≠ 2) : S2 A w0 w' c' va vb ea eb :=
  have ho := k.old h0 h.low.size h.old
  ⟨h.low.trans ho.1, ho.2, k.pe A (by omega) h.a, k.pe A (by omega) h.b⟩
theorem S2.stepA (h : S2 A w0 w c va vb ea eb) {c' : Nat → Nat} {w' : World} {e : E} (k : Keep c c' 1 w w') (hp : A.PE (Col c' 1) w' va e) : S2 A w0 w' c' va vb e eb :=
  have ho := k.old (by omega) h.low.size h.old
  ⟨h.low.trans ho.1, ho.2, hp, k.pe A (by omega) h.b⟩
theorem S2.stepB (h : S2 A w0 w c va vb ea eb) {c' : Nat → Nat} {w' : World} {e : E} (k : Keep c c' 2 w w') (hp : A.PE (Col c' 2) w' vb e) : S2 A w0 w' c' va vb ea e :=
  have ho := k.old (by omega) h.low.size h.old
  ⟨h.low.trans ho.1, ho.2, k.pe A (by omega) h.a, hp⟩
theorem S2.sendA (h : S2 A w0 w c va vb ea eb) (hf : Fit ea) {u : Value} {bs : List Int} {j : Nat} (hj : j ≠ 1) (hu : SlC (Col c j) w u bs) : Calls Try.prog 18 #[va, u] w fun r w' => ∃ c', r = .returned (.int .i64 (sdE ea bs)) ∧ Keep c c' 1 w w' ∧ S2 A w0 w' c' va vb (sdS ea bs) eb := by
  refine (A.sendC c 1 va u ea bs w h.a hf (hu.ne hj)).mono ?_
  rintro r w' ⟨c', rfl, hk, hp⟩
  exact ⟨c', rfl, hk, h.stepA hk hp⟩
theorem S2.sendB (h : S2 A w0 w c va vb ea eb) (hf : Fit eb) {u : Value} {bs : List Int} {j : Nat} (hj : j ≠ 2) (hu : SlC (Col c j) w u bs) : Calls Try.prog 18 #[vb, u] w fun r w' => ∃ c', r = .returned (.int .i64 (sdE eb bs)) ∧ Keep c c' 2 w w' ∧ S2 A w0 w' c' va vb ea (sdS eb bs) := by
  refine (A.sendC c 2 vb u eb bs w h.b hf (hu.ne hj)).mono ?_
  rintro r w' ⟨c', rfl, hk, hp⟩
  exact ⟨c', rfl, hk, h.stepB hk hp⟩
theorem S2.takeA (h : S2 A w0 w c va vb ea eb) (hf : Fit ea) {u : Value} {bs : List Int} {j : Nat} (hj : j ≠ 1) (hu : SlC (Col c j) w u bs) : Calls Try.prog 19 #[va, u] w fun r w' => ∃ c', r = .returned (.int .i64 (taE bs)) ∧ Keep c c' 1 w w' ∧ S2 A w0 w' c' va vb (taS ea bs) eb := by
  refine (A.takeC c 1 va u ea bs w h.a hf (hu.ne hj)).mono ?_
  rintro r w' ⟨c', rfl, hk, hp⟩
  exact ⟨c', rfl, hk, h.stepA hk hp⟩
theorem S2.takeB (h : S2 A w0 w c va vb ea eb) (hf : Fit eb) {u : Value} {bs : List Int} {j : Nat} (hj : j ≠ 2) (hu : SlC (Col c j) w u bs) : Calls Try.prog 19 #[vb, u] w fun r w' => ∃ c', r = .returned (.int .i64 (taE bs)) ∧ Keep c c' 2 w w' ∧ S2 A w0 w' c' va vb ea (taS eb bs) := by
  refine (A.takeC c 2 vb u eb bs w h.b hf (hu.ne hj)).mono ?_
  rintro r w' ⟨c', rfl, hk, hp⟩
  exact ⟨c', rfl, hk, h.stepB hk hp⟩
theorem S2.tickA (h : S2 A w0 w c va vb ea eb) (hf : Fit ea) (j : Nat) : Calls Try.prog 20 #[va] w fun x w' => ∃ u c', x = .returned u ∧ Keep c c' 1 w w' ∧ S2 A w0 w' c' va vb ea eb ∧ Ls (Col c' j) w' u [tkL ea] := by
  refine (A.tickC c 1 j va ea w h.a hf).mono ?_
  rintro r w' ⟨u, c', rfl, hk, hp, hl⟩
  exact ⟨u, c', rfl, hk, h.stepA hk hp, hl⟩
theorem S2.tickB (h : S2 A w0 w c va vb ea eb) (hf : Fit eb) (j : Nat) : Calls Try.prog 20 #[vb] w fun x w' => ∃ u c', x = .returned u ∧ Keep c c' 2 w w' ∧ S2 A w0 w' c' va vb ea eb ∧ Ls (Col c' j) w' u [tkL eb] := by
  refine (A.tickC c 2 j vb eb w h.b hf).mono ?_
  rintro r w' ⟨u, c', rfl, hk, hp, hl⟩
  exact ⟨u, c', rfl, hk, h.stepB hk hp, hl⟩
theorem S2.cameA (h : S2 A w0 w c va vb ea eb) (hf : Fit ea) (j : Nat) : Calls Try.prog 15 #[va] w fun x w' => ∃ u c', x = .returned u ∧ Keep c c' 1 w w' ∧ S2 A w0 w' c' va vb (cmS ea) eb ∧ Ls (Col c' j) w' u ea.new := by
  refine (A.cameC c 1 j va ea w h.a hf).mono ?_
  rintro r w' ⟨u, c', rfl, hk, hp, hl⟩
  exact ⟨u, c', rfl, hk, h.stepA hk hp, hl⟩
theorem S2.cameB (h : S2 A w0 w c va vb ea eb) (hf : Fit eb) (j : Nat) : Calls Try.prog 15 #[vb] w fun x w' => ∃ u c', x = .returned u ∧ Keep c c' 2 w w' ∧ S2 A w0 w' c' va vb ea (cmS eb) ∧ Ls (Col c' j) w' u eb.new := by
  refine (A.cameC c 2 j vb eb w h.b hf).mono ?_
  rintro r w' ⟨u, c', rfl, hk, hp, hl⟩
  exact ⟨u, c', rfl, hk, h.stepB hk hp, hl⟩
theorem S2.leftA (h : S2 A w0 w c va vb ea eb) (hf : Fit ea) : Calls Try.prog 21 #[va] w fun r w' => ∃ c', r = .returned (.int .i64 (ea.sent.length : Nat)) ∧ Keep c c' 1 w w' ∧ S2 A w0 w' c' va vb ea eb := by
  refine (A.leftC c 1 va ea w h.a hf).mono ?_
  rintro r w' ⟨c', rfl, hk, hp⟩
  exact ⟨c', rfl, hk, h.stepA hk hp⟩
theorem S2.leftB (h : S2 A w0 w c va vb ea eb) (hf : Fit eb) : Calls Try.prog 21 #[vb] w fun r w' => ∃ c', r = .returned (.int .i64 (eb.sent.length : Nat)) ∧ Keep c c' 2 w w' ∧ S2 A w0 w' c' va vb ea eb := by
  refine (A.leftC c 2 vb eb w h.b hf).mono ?_
  rintro r w' ⟨c', rfl, hk, hp⟩
  exact ⟨c', rfl, hk, h.stepB hk hp⟩
end
/-- The second end is made, the first one being there. -/
theorem S2.make {A : PApi} {w0 w : World} {c : Nat → Nat} {va : Value} {ea : E} (hl : Below w0.heap.size w0 w) (ho : ∀ k, k < w0.heap.size → c k = 0) (ha : A.PE (Col c 1) w va ea) (p : Nat) (hp : p < 4294967296) : Calls Try.prog 11 #[.int .u32 (p : Nat)] w fun r w' => ∃ vb c', r = .returned vb ∧ Keep c c' 2 w w' ∧ S2 A w0 w' c' va vb ea (E.mk0 p) := by
  refine (A.newC c 2 p w hp).mono ?_
  rintro r w' ⟨v, c', rfl, hk, -, -, hb⟩
  have h := hk.old (by omega) hl.size ho
  exact ⟨v, c', rfl, hk, hl.trans h.1, h.2, hk.pe A (by omega) ha, hb⟩
/-- The first end is made. -/
theorem make1 (A : PApi) (w : World) (p : Nat) (hp : p < 4294967296) : Calls Try.prog 11 #[.int .u32 (p : Nat)] w fun r w' => ∃ va c, r = .returned va ∧ Below w.heap.size w w' ∧ (∀ k, k < w.heap.size → c k = 0) ∧ A.PE (Col c 1) w' va (E.mk0 p) := by
  refine (A.newC (fun _ => 0) 1 p w hp).mono ?_
  rintro r w' ⟨v, c', rfl, hk, hc, hb, h⟩
  exact ⟨v, c', rfl, hb, hc, h⟩

set_option maxRecDepth 100000 in
set_option maxHeartbeats 1600000 in
theorem wakes_any (A : PApi) (w : World) : Calls Try.prog 10 #[] w fun r w' => r = .returned (.bool true) ∧ Below w.heap.size w w' := by
  go_enter Try.func10, Try.ntmps10
  go_wp2_with fail
  go_fit (make1 A w 3 (by decide))
  rintro r w1 ⟨va, c1, rfl, hl1, ho1, hp1⟩
  have H1 : Hid (Below w.heap.size w w1 ∧ (∀ k, k < w.heap.size → c1 k = 0) ∧ A.PE (Col c1 1) w1 va (E.mk0 3)) := ⟨hl1, ho1, hp1⟩
  clear hl1 ho1 hp1
  go_wp2_with fail
  go_fit (S2.make H1.out.1 H1.out.2.1 H1.out.2.2 3 (by decide))
  rintro r w2 ⟨vb, c2, rfl, -, h2⟩
  have q2 := conv1 w2 120
  have l2 := lay1 c2 7 w2 120 (by decide) (by decide)
  have S3 : Hid (S2 A w (w2.alloc (.cells #[.int .u8 120] 5 (1, 2))) (tint c2 w2.heap.size 7) va vb (E.mk0 3) (E.mk0 3)) := h2.other l2.2 (by omega) (by omega) (by omega)
  have L3 : Hid (SlC (Col (tint c2 w2.heap.size 7) 7) (w2.alloc (.cells #[.int .u8 120] 5 (1, 2))) (.slice (some ⟨w2.heap.size, 0, none⟩) 1 1) [120]) := l2.1
  clear h2 l2 H1
  go_wp2_with fail
  go_fit (S3.out.sendA (fit3 (by decide) (by decide) (by decide) (by decide) (by simp)) (j := 7) (by omega) L3.out)
  rintro r w3 ⟨c3, rfl, -, h3⟩
  rw [k_send1.1]
  rw [k_send1.2] at h3
  have q3 := conv1 w3 121
  have l3 := lay1 c3 7 w3 121 (by decide) (by decide)
  have S4 : Hid (S2 A w (w3.alloc (.cells #[.int .u8 121] 5 (1, 2))) (tint c3 w3.heap.size 7) va vb ⟨3, [[120]], 0, 0, []⟩ (E.mk0 3)) := h3.other l3.2 (by omega) (by omega) (by omega)
  have L4 : Hid (SlC (Col (tint c3 w3.heap.size 7) 7) (w3.alloc (.cells #[.int .u8 121] 5 (1, 2))) (.slice (some ⟨w3.heap.size, 0, none⟩) 1 1) [121]) := l3.1
  clear h3 l3 S3 L3 q2
  go_wp2_with fail
  go_fit (S4.out.sendA (fit3 (by decide) (by decide) (by decide) (by decide) (by simp)) (j := 7) (by omega) L4.out)
  rintro r w4 ⟨c4, rfl, -, h4⟩
  rw [k_send2.1]
  rw [k_send2.2] at h4
  have S5 : Hid (S2 A w w4 c4 va vb ka (E.mk0 3)) := h4
  clear h4 S4 L4 q3
  go_wp2_with fail
  go_fit (S5.out.tickA (fit3 (by decide) (by decide) (by decide) (by decide) (by simp)) 3)
  rintro r w5 ⟨u5, c5, rfl, -, h5, hl5⟩
  obtain ⟨b5, o5, k5, x5, y5, rfl, hc5, hs5⟩ := hl5.one
  generalize hT : tkL ka = T at *
  have S6 : Hid (S2 A w w5 c5 va vb ka (E.mk0 3)) := h5
  have L6 : Hid (SlC (Col c5 3) w5 (.slice x5 T.length y5) T) := hs5
  have M6 : Hid (Ls (Col c5 3) w5 (.slice (some ⟨b5, o5, none⟩) 1 k5) [T]) := hl5
  have HT : Hid (tkL ka = T) := hT
  clear h5 hl5 hs5 S5 hT
  go_wp2_with fail
  go_fit (S6.out.takeB (fit3 (by decide) (by decide) (by decide) (by decide) (by simp)) (j := 3) (by omega) L6.out)
  rintro r w6 ⟨c6, rfl, k6, h6⟩
  have t6 := k_take1
  rw [HT.out] at t6
  rw [t6.1]
  rw [t6.2] at h6
  have hl6 := k6.ls (j := 3) (by omega) M6.out
  obtain ⟨b6, o6, q6, x6, y6, e6, hc6, hs6⟩ := hl6.one
  simp only [Value.slice.injEq, Option.some.injEq, Addr.mk.injEq, and_true, true_and] at e6
  obtain ⟨⟨rfl, rfl⟩, rfl⟩ := e6
  have S7 : Hid (S2 A w w6 c6 va vb ka ⟨3, [], 0, 2, kx⟩) := h6
  have L7 : Hid (SlC (Col c6 3) w6 (.slice x6 T.length y6) T) := hs6
  clear h6 hs6 S6 L6 M6 hl6 k6 hc5 t6
  go_wp2_with fail
  go_fit (S7.out.takeB (fit3 (by decide) (by decide) (by decide) (by decide) (by simp)) (j := 3) (by omega) L7.out)
  rintro r w7 ⟨c7, rfl, -, h7⟩
  have t7 := k_take1.1
  have t8 := k_take2
  rw [HT.out] at t7 t8
  rw [t7]
  rw [t8] at h7
  have S8 : Hid (S2 A w w7 c7 va vb ka ⟨3, [], 0, 2, kx⟩) := h7
  clear h7 S7 L7 t7 t8 hc6
  go_wp2_with fail
  go_fit (S8.out.cameB (fit3 (by decide) (by decide) (by decide) (by decide) (by simp)) 4)
  rintro r w8 ⟨u8, c8, rfl, -, h8, hl8⟩
  have S9 : Hid (S2 A w w8 c8 va vb ka ⟨3, [], 0, 2, []⟩) := h8
  have L9 : Hid (Ls (Col c8 4) w8 u8 kx) := hl8
  clear h8 hl8 S8
  go_wp2_with fail
  go_fit (S9.out.tickB (fit3 (by decide) (by decide) (by decide) (by decide) (by simp)) 3)
  rintro r w9 ⟨u9, c9', rfl, k9, h9, hl9⟩
  have hl8 := k9.ls (j := 4) (by omega) L9.out
  obtain ⟨b9, o9, k9', x9, y9, rfl, hc9, hs9⟩ := hl9.one
  obtain ⟨a8, q8, rfl, -, -, -, h8⟩ := hl8
  obtain ⟨b8, o8, -, rfl, hcl8⟩ := h8 (by simp)
  obtain ⟨p1, hp1, hs1⟩ := hcl8 0 (by simp)
  obtain ⟨p2, hp2, hs2⟩ := hcl8 1 (by simp)
  have hs1' : SlC (Col c9' 4) w9 p1 [120] := hs1
  have hs2' : SlC (Col c9' 4) w9 p2 [121] := hs2
  have cv1 : (convert 31 9 p1).run Try.prog w9 = .ok (.string { data := #[120] }) w9 := conv_sl hs1'.sl
  have cv2 : (convert 31 9 p2).run Try.prog w9 = .ok (.string { data := #[121] }) w9 := conv_sl hs2'.sl
  clear hs1 hs2
  obtain ⟨i1, j1, rfl, -⟩ := hs1'
  obtain ⟨i2, j2, rfl, -⟩ := hs2'
  simp only [List.length_cons, List.length_nil, Nat.zero_add] at hp1 hp2 cv1 cv2
  rw [Nat.add_zero] at hp1
  generalize hG : tkL ⟨3, [], 0, 2, []⟩ = G at *
  have hG18 : G.length = 18 := by rw [← hG]; exact k_len
  rw [hG18] at hc9 hs9
  have SA : Hid (S2 A w w9 c9' va vb ka ⟨3, [], 0, 2, []⟩) := h9
  have LA : Hid (SlC (Col c9' 3) w9 (.slice x9 18 y9) G) := hs9
  have MA : Hid (Ls (Col c9' 3) w9 (.slice (some ⟨b9, o9, none⟩) 1 k9') [G]) := hl9
  have HG : Hid (tkL ⟨3, [], 0, 2, []⟩ = G ∧ G.length = 18) := ⟨hG, hG18⟩
  clear h9 hs9 hl9 hG hcl8 h8 k9 S9 L9 hG18
  go_wp2_with fail
  go_fit (SA.out.leftA (fit3 (by decide) (by decide) (by decide) (by decide) (by simp)))
  rintro r wa ⟨ca, rfl, ka', ha⟩
  have hla := ka'.ls (j := 3) (by omega) MA.out
  obtain ⟨ba, oa, qa, xa, ya, e6, hca, hsa⟩ := hla.one
  simp only [Value.slice.injEq, Option.some.injEq, Addr.mk.injEq, and_true, true_and] at e6
  obtain ⟨⟨rfl, rfl⟩, rfl⟩ := e6
  have SB : Hid (S2 A w wa ca va vb ka ⟨3, [], 0, 2, []⟩) := ha
  have LB : Hid (SlC (Col ca 3) wa (.slice xa G.length ya) G) := hsa
  have MB : Hid (Ls (Col ca 3) wa (.slice (some ⟨b9, o9, none⟩) 1 k9') [G]) := hla
  clear ha hsa hla SA LA MA ka' hp1 hp2 cv1 cv2 hc9
  go_wp2_with fail
  go_fit (SB.out.takeA (fit3 (by decide) (by decide) (by decide) (by decide) (by simp)) (j := 3) (by omega) LB.out)
  rintro r wb ⟨cb, rfl, kb, hb⟩
  have tb := k_take3
  rw [HG.out.1] at tb
  rw [tb.1]
  rw [tb.2] at hb
  have SC : Hid (S2 A w wb cb va vb ⟨3, [], 2, 0, []⟩ ⟨3, [], 0, 2, []⟩) := hb
  have MC : Hid (Ls (Col cb 3) wb (.slice (some ⟨b9, o9, none⟩) 1 k9') [G]) := kb.ls (by omega) MB.out
  clear hb SB LB MB kb tb hca
  go_wp2_with fail
  go_fit (SC.out.leftA (fit3 (by decide) (by decide) (by decide) (by decide) (by simp)))
  rintro r wc ⟨cc, rfl, kc, hc⟩
  have hlc := kc.ls (j := 3) (by omega) MC.out
  obtain ⟨bc, oc, qc, xc, yc, e6, hcc, hsc⟩ := hlc.one
  simp only [Value.slice.injEq, Option.some.injEq, Addr.mk.injEq, and_true, true_and] at e6
  obtain ⟨⟨rfl, rfl⟩, rfl⟩ := e6
  rw [HG.out.2] at hcc
  have HLow : Hid (Below w.heap.size w wc) := hc.low
  clear hc hlc hsc SC MC kc
  go_wp2
  go_ret
  exact ⟨rfl, HLow.out⟩
end Go.Proofs.Ytijjcopglbcoiaa
