/-
  Proved here: nameAt, the kinds of numbers as closures in memory (numberKinds), and numberAt of package scan; strings.IndexByte at the signs. No old memory turns. Conditions: strconv's errors are some; the place is within the text.
-/
/-
  Proved here: numberAt and wordAt of package scan find the word at a place as the document says. No old memory turns. Conditions: strconv's errors are some; the kinds of numbers lie in their block; the place is within the text.
-/
/-
  Proved here: wordAt of package scan finds the word at a place as the document says. No old memory turns. Conditions: strconv's errors are some; the kinds of numbers lie in their block; the place is within the text.
-/
import Derived.Test.YtoncogkamlgjhaaGreatDoorFQ6
import Derived.Lib.Bytealg
namespace Go.Proofs.YtoncogkamlgjhaaGreatDoor
set_option maxRecDepth 100000
open Go.RowKit
set_option maxRecDepth 100000

theorem slIndexByte_any (s : ByteArray) (c : Int) (w : World) :
    Calls Tryz.prog 81 #[.string s, .int .u8 c] w fun e w' => e = .returned (.int .i64 (Lib.indexByte s.data.toList c.toNat.toUInt8)) ∧ w' = w := by
  go_enter Tryz.func81, Tryz.ntmps81
  go_wp2
  rw [run_callFunc_extern Tryz.func90 (by kernel_rfl) (by kernel_rfl) (by kernel_rfl) (e := Extern.BytealgIndexByte.indexByte) (by kernel_rfl), Lib.run_indexByteString]
  simp only [Result.andThen]
  rw [Oper.upon_value]
  go_wp2
  go_ret
  exact ⟨rfl, rfl⟩
abbrev sgB : ByteArray := ⟨#[43, 59, 42, 61, 33, 38, 124, 40, 41, 123, 125]⟩
theorem sgn_all : ((List.range 256).all fun c => decide (0 ≤ Lib.indexByte sgB.data.toList ((c : Int)).toNat.toUInt8) == decide (c ∈ sgn)) = true := by kernel_rfl
theorem idx_any (c : Nat) (hc : c < 256) (w : World) : Calls Tryz.prog 55 #[.string sgB, .int .u8 c] w fun e w' => (∃ r : Int, e = .returned (.int .i64 r) ∧ decide (0 ≤ r) = decide (c ∈ sgn)) ∧ w' = w := by
  have hq := List.all_eq_true.1 sgn_all c (List.mem_range.2 hc)
  have HC := hid (slIndexByte_any sgB c w)
  have HQ := hid (eq_of_beq hq)
  generalize Lib.indexByte sgB.data.toList ((c : Int)).toNat.toUInt8 = r at HC HQ
  clear hq
  go_enter Tryz.func55, Tryz.ntmps55
  go_wp2_with (go_at_call 81; refine (HC.out).mono ?_; rintro e w' ⟨rfl, rfl⟩; clear HC)
  go_ret
  exact ⟨⟨r, rfl, HQ.out⟩, rfl⟩

/-- The answer of a function with what is found in a block. -/
theorem results_c {fn : Func} {p : Tmp} (h : fn.results = #[.cell p 71]) (tmps : Array Value) (w : World) (g : Nat) (f : Fd)
    (hp : tmps.getD p undef = .pointer (some ⟨g, 0, none⟩)) (hg : w.heap[g]? = some (.cells (fdc f) 71 (0, 0))) :
    (results fn tmps).run Tryz.prog w = .ok (.agg (fdc f)) w :=
  results_cell_row h tmps w g 71 (fdc f) (0, 0) _ hp hg Tryz.underlying71 rfl (fd4 f)
theorem nameAt_any (s : ByteArray) (a : Nat) (w : World) (ha : a ≤ s.size) (hs : s.size ≤ 65536) :
    Calls Tryz.prog 53 #[.string s, .int .i64 a] w fun e w' => e = .returned (.agg (fdc (nam s a))) ∧ Below w.heap.size w w' := by
  have HE := hid (fun W => runEnd_any tellsN s a ha (by omega) W)
  have hge := rE_ge isN s a
  have hle := rE_le (p := isN) ha
  have HK : Hid (nam s a = if 32 < rE isN s a - a then ⟨0, rE isN s a, 0, 3⟩ else ⟨1, rE isN s a, 0, 0⟩) := rfl
  generalize rE isN s a = e at HE hge hle HK
  have g0 : IntKind.i64.wrap ((e : Int) - (a : Int)) = (e : Int) - (a : Int) := by rw [IntKind.wrap_i64]; omega
  by_cases h : 32 < e - a
  · have g1 : decide ((32 : Int) < (e : Int) - (a : Int)) = true := by simp; omega
    have hr : nam s a = ⟨0, e, 0, 3⟩ := by rw [HK.out, if_pos h]
    rw [hr]; clear hr HK h
    go_enter Tryz.func53, Tryz.ntmps53
    go_wp2_with (go_at_call 72; refine (HE.out _).mono ?_; rintro e w' ⟨rfl, hw⟩; obtain rfl := hw.symm)
    refine bodyPost_ret (v := .agg (fdc ⟨0, e, 0, 3⟩)) (results_c Tryz.results53 _ _ w.heap.size ⟨0, e, 0, 3⟩ rfl ?_) rfl ?_
    · exact heap_alloc_new _ _
    · exact ⟨rfl, (Below.refl _ _).alloc (Nat.le_refl _) _⟩
  · have g1 : decide ((32 : Int) < (e : Int) - (a : Int)) = false := by simp; omega
    have hr : nam s a = ⟨1, e, 0, 0⟩ := by rw [HK.out, if_neg h]
    rw [hr]; clear hr HK h
    go_enter Tryz.func53, Tryz.ntmps53
    go_wp2_with (go_at_call 72; refine (HE.out _).mono ?_; rintro e w' ⟨rfl, hw⟩; obtain rfl := hw.symm)
    refine bodyPost_ret (v := .agg (fdc ⟨1, e, 0, 0⟩)) (results_c Tryz.results53 _ _ w.heap.size ⟨1, e, 0, 0⟩ rfl ?_) rfl ?_
    · exact heap_alloc_new _ _
    · exact ⟨rfl, (Below.refl _ _).alloc (Nat.le_refl _) _⟩

abbrev ptr (b : Nat) : Value := .pointer (some ⟨b, 0, none⟩)
abbrev cl1 (f b : Nat) : Value := .func (.func f) #[] #[ptr b]
abbrev cl2 (f b c : Nat) : Value := .func (.func f) #[] #[ptr b, ptr c]
theorem six_mk (s : ByteArray) (w : World) : Calls Tryz.prog 46 #[.string s] w fun e w' => e = .returned (cl1 68 w.heap.size) ∧ w' = w.alloc (.cells #[.string s] 9) := by
  go_enter Tryz.func46, Tryz.ntmps46
  go_wp2
  go_ret
  exact ⟨rfl, rfl⟩
theorem hex_mk (s : ByteArray) (w : World) : Calls Tryz.prog 47 #[.string s] w fun e w' => e = .returned (cl1 71 w.heap.size) ∧ w' = w.alloc (.cells #[.string s] 9) := by
  go_enter Tryz.func47, Tryz.ntmps47
  go_wp2
  go_ret
  exact ⟨rfl, rfl⟩
theorem dec_mk (s : ByteArray) (w : World) : Calls Tryz.prog 49 #[.string s] w fun e w' => e = .returned (cl1 79 w.heap.size) ∧ w' = w.alloc (.cells #[.string s] 9) := by
  go_enter Tryz.func49, Tryz.ntmps49
  go_wp2
  go_ret
  exact ⟨rfl, rfl⟩
theorem four_mk (s : ByteArray) (w : World) : Calls Tryz.prog 48 #[.string s] w fun e w' => e = .returned (cl2 75 (w.heap.size + 1) w.heap.size) ∧ w' = (w.alloc (.cells #[.string s] 9)).alloc (.cells #[clD w.heap.size] 111) := by
  have hst : (store ⟨w.heap.size + 1, 0, none⟩ (clD w.heap.size)).run Tryz.prog ((w.alloc (.cells #[.string s] 9)).alloc (.cells #[.nilFunc] 111)) = .ok () ((w.alloc (.cells #[.string s] 9)).alloc (.cells #[clD w.heap.size] 111)) := by
    rw [run_store Tryz.prog _ _ _ _ (by rfl)]
    have hg : ((w.alloc (.cells #[.string s] 9)).alloc (.cells #[.nilFunc] 111)).heap[w.heap.size + 1]? = some (.cells #[.nilFunc] 111 (0, 0)) := heap_alloc2_new _ _ _
    have hz : (w.alloc (.cells #[.string s] 9)).heap.size = w.heap.size + 1 := by simp
    rw [cell_of_row _ _ _ _ _ _ hg, setCell_eq_setRow _ _ _ _ _ _ _ hg]
    have hf : ((w.alloc (.cells #[.string s] 9)).alloc (.cells #[.nilFunc] 111)).frozen? ⟨w.heap.size + 1, 0, none⟩ = false := by unfold World.frozen?; rw [hg]; rfl
    rw [← hz, World.setRow_alloc_new, hz]
    simp [hf]
  go_enter Tryz.func48, Tryz.ntmps48
  go_wp2
  go_ret
  exact ⟨rfl, rfl⟩
/-- The kinds of numbers of a text, in a block. -/
structure Kn (s : ByteArray) (kb b0 b1 b2 bc b3 : Nat) (W : World) : Prop where
  k0 : W.cell? ⟨kb, 0, none⟩ = some (cl1 68 b0)
  k1 : W.cell? ⟨kb, 1, none⟩ = some (cl1 71 b1)
  k2 : W.cell? ⟨kb, 2, none⟩ = some (cl2 75 bc b2)
  k3 : W.cell? ⟨kb, 3, none⟩ = some (cl1 79 b3)
  s0 : W.cell? ⟨b0, 0, none⟩ = some (.string s)
  s1 : W.cell? ⟨b1, 0, none⟩ = some (.string s)
  cp : Cp s b2 bc W
  s3 : W.cell? ⟨b3, 0, none⟩ = some (.string s)
theorem Kn.on {s : ByteArray} {kb b0 b1 b2 bc b3 : Nat} {W W' : World} (h : Kn s kb b0 b1 b2 bc b3 W) (hb : Below W.heap.size W W') : Kn s kb b0 b1 b2 bc b3 W' :=
  ⟨(hb.cell (p := ⟨kb, 0, none⟩) (cell_lt h.k0)).trans h.k0, (hb.cell (p := ⟨kb, 1, none⟩) (cell_lt h.k1)).trans h.k1, (hb.cell (p := ⟨kb, 2, none⟩) (cell_lt h.k2)).trans h.k2, (hb.cell (p := ⟨kb, 3, none⟩) (cell_lt h.k3)).trans h.k3,
    (hb.cell (p := ⟨b0, 0, none⟩) (cell_lt h.s0)).trans h.s0, (hb.cell (p := ⟨b1, 0, none⟩) (cell_lt h.s1)).trans h.s1, h.cp.on hb, (hb.cell (p := ⟨b3, 0, none⟩) (cell_lt h.s3)).trans h.s3⟩
theorem blk_new {w : World} {o : Obj} {n : Nat} (h : n = w.heap.size) : (w.alloc o).heap[n]? = some o := by subst h; exact heap_alloc_new _ _
theorem blk_old {w : World} {o x : Obj} {n : Nat} (h : w.heap[n]? = some x) : (w.alloc o).heap[n]? = some x := by
  rw [Below.heap_alloc _ _ _ (Array.getElem?_eq_some_iff.1 h).1]; exact h
theorem kinds_any (s : ByteArray) (w : World) : Calls Tryz.prog 26 #[.string s] w fun e w' => (∃ kb b0 b1 b2 bc b3 c, e = .returned (.slice (some ⟨kb, 0, none⟩) 4 c) ∧ Kn s kb b0 b1 b2 bc b3 w') ∧ Below w.heap.size w w' := by
  go_enter Tryz.func26, Tryz.ntmps26
  go_wp2_with (first
    | (go_at_call 46; refine (six_mk s _).mono ?_; rintro e w' ⟨rfl, rfl⟩)
    | (go_at_call 47; refine (hex_mk s _).mono ?_; rintro e w' ⟨rfl, rfl⟩)
    | (go_at_call 48; refine (four_mk s _).mono ?_; rintro e w' ⟨rfl, rfl⟩)
    | (go_at_call 49; refine (dec_mk s _).mono ?_; rintro e w' ⟨rfl, rfl⟩))
  go_ret
  refine ⟨⟨_, w.heap.size, w.heap.size + 1, w.heap.size + 1 + 1, w.heap.size + 1 + 1 + 1, w.heap.size + 1 + 1 + 1 + 1, _, rfl, ?_⟩, ?_⟩
  · exact ⟨(cell_of_row _ _ _ _ _ _ (blk_new (by simp))).trans rfl, (cell_of_row _ _ _ _ _ _ (blk_new (by simp))).trans rfl, (cell_of_row _ _ _ _ _ _ (blk_new (by simp))).trans rfl, (cell_of_row _ _ _ _ _ _ (blk_new (by simp))).trans rfl, (cell_of_row _ _ _ _ _ _ (blk_old (blk_old (blk_old (blk_old (blk_old (blk_new (by simp)))))))).trans rfl, (cell_of_row _ _ _ _ _ _ (blk_old (blk_old (blk_old (blk_old (blk_new (by simp))))))).trans rfl, ⟨(cell_of_row _ _ _ _ _ _ (blk_old (blk_old (blk_new (by simp))))).trans rfl, (cell_of_row _ _ _ _ _ _ (blk_old (blk_old (blk_old (blk_new (by simp)))))).trans rfl⟩, (cell_of_row _ _ _ _ _ _ (blk_old (blk_new (by simp)))).trans rfl⟩
  · exact (((((Below.refl _ _).alloc (Nat.le_refl _) _).alloc (by simp) _).alloc (by simp; omega) _).alloc (by simp; omega) _).alloc (by simp; omega) _ |>.alloc (by simp; omega) _
end Go.Proofs.YtoncogkamlgjhaaGreatDoor
namespace Go.Proofs.YtoncogkamlgjhaaGreatDoor
set_option maxRecDepth 100000
open Go.RowKit
set_option maxRecDepth 100000

/-- the i-th kind of numbers -/
def kk (s : ByteArray) (a : Nat) : Nat → Option Fd
  | 0 => k6 s a
  | 1 => kx s a
  | 2 => k4 s a
  | _ => kd s a
def fin (s : ByteArray) (f : Fd) : Fd := if f.c = 0 ∧ isN (bt s f.e) = true then ⟨0, f.e, 0, 150⟩ else f
def na (s : ByteArray) (a : Nat) : Option Fd := ((k6 s a).orElse fun _ => (kx s a).orElse fun _ => (k4 s a).orElse fun _ => kd s a).map (fin s)
theorem kind_i {s : ByteArray} {a kb b0 b1 b2 bc b3 : Nat} {W : World} (hk : Kn s kb b0 b1 b2 bc b3 W) (ht : Tab0 W) (ha : a ≤ s.size) (hs : s.size ≤ 65536) {i : Nat} (hi : i < 4) :
    ∃ (f : FuncId) (caps : List Value), W.cell? ⟨kb, i, none⟩ = some (.func (.func f) #[] caps.toArray) ∧ (∀ (args : Array Value) w, (callFunc f args).run Tryz.prog w = .ok (.enter f args) w) ∧
      Calls Tryz.prog f ([Value.int .i64 (a : Int)] ++ caps).toArray W fun e w' => e = .returned (kdV (kk s a i)) ∧ Below W.heap.size W w' := by
  rcases (show i = 0 ∨ i = 1 ∨ i = 2 ∨ i = 3 by omega) with rfl | rfl | rfl | rfl
  · exact ⟨68, [ptr b0], hk.k0, fun _ _ => rfl, six_any s a b0 W hk.s0 ha hs⟩
  · exact ⟨71, [ptr b1], hk.k1, fun _ _ => rfl, hexadecimal_any s a b1 W hk.s1 ha hs⟩
  · exact ⟨75, [ptr bc, ptr b2], hk.k2, fun _ _ => rfl, fourParts_any s a b2 bc W ht hk.cp ha hs⟩
  · exact ⟨79, [ptr b3], hk.k3, fun _ _ => rfl, decimal_any s a b3 W ht hk.s3 ha hs⟩
theorem na_some {s : ByteArray} {a i : Nat} {f : Fd} (hi : i < 4) (h0 : ∀ j, j < i → kk s a j = none) (h : kk s a i = some f) : na s a = some (fin s f) := by
  unfold na
  rcases (show i = 0 ∨ i = 1 ∨ i = 2 ∨ i = 3 by omega) with rfl | rfl | rfl | rfl
  · rw [show k6 s a = some f from h]; rfl
  · rw [show k6 s a = none from h0 0 (by omega), show kx s a = some f from h]; rfl
  · rw [show k6 s a = none from h0 0 (by omega), show kx s a = none from h0 1 (by omega), show k4 s a = some f from h]; rfl
  · rw [show k6 s a = none from h0 0 (by omega), show kx s a = none from h0 1 (by omega), show k4 s a = none from h0 2 (by omega), show kd s a = some f from h]; rfl
theorem na_none {s : ByteArray} {a : Nat} (h0 : ∀ j, j < 4 → kk s a j = none) : na s a = none := by
  unfold na
  rw [show k6 s a = none from h0 0 (by omega), show kx s a = none from h0 1 (by omega), show k4 s a = none from h0 2 (by omega), show kd s a = none from h0 3 (by omega)]; rfl
/-- where the search for a number is -/
structure Np (s : ByteArray) (kb b0 b1 b2 bc b3 : Nat) (w W : World) : Prop where
  rz : Rz w w.heap.size ⟨0, 0, 0, 0⟩ W
  kn : Kn s kb b0 b1 b2 bc b3 W
  tb : Tab0 W
theorem Np.on {s : ByteArray} {kb b0 b1 b2 bc b3 : Nat} {w W W' : World} (h : Np s kb b0 b1 b2 bc b3 w W) (hb : Below W.heap.size W W') : Np s kb b0 b1 b2 bc b3 w W' := ⟨h.rz.on hb, h.kn.on hb, h.tb.on hb⟩
theorem kk_le {s : ByteArray} {a i : Nat} {f : Fd} (ha : a ≤ s.size) (h : kk s a i = some f) : f.e ≤ s.size ∧ f.c < 256 := by
  have hd : ∀ k, k ≤ s.size → rE isD s k ≤ s.size := fun k hk => rE_le hk
  have hdot : ∀ f k n, k ≤ s.size → (dotR s f k n).e ≤ s.size ∧ (dotR s f k n).c < 256 := by
    intro f
    induction f with
    | zero => intro k n hk; exact ⟨hk, (show 0 < 256 by decide)⟩
    | succ f ih =>
      intro k n hk
      rw [dotR]
      split
      · split
        · exact ⟨hd k hk, by simp⟩
        · exact ih _ _ (hd k hk)
      · split
        · rename_i hc
          have hk1 : k + 1 ≤ s.size := in_of_bt (by rw [hc]; decide)
          split
          · exact ⟨hd _ hk1, by simp⟩
          · exact ih _ _ (hd _ hk1)
        · exact ⟨hk, by simp⟩
  rcases (show i = 0 ∨ i = 1 ∨ i = 2 ∨ 3 ≤ i by omega) with rfl | rfl | rfl | hi
  · have h' : k6 s a = some f := h
    unfold k6 at h'
    cases hp : pr s a with
    | none => rw [hp] at h'; exact absurd h' (by simp)
    | some n => rw [hp] at h'; simp at h'; subst h'; exact ⟨pr_in hp, by simp⟩
  · have h' : kx s a = some f := h
    unfold kx at h'
    split at h'
    · rename_i hc
      have hin : a + 1 < s.size := in_of_bt (by rw [hc.2]; decide)
      have hle := rE_le (p := isH) (s := s) (k := a + 2) (by omega)
      split at h'
      · simp at h'; subst h'; exact ⟨hle, by simp⟩
      · simp at h'; subst h'; exact ⟨hle, by simp⟩
    · exact absurd h' (by simp)
  · have h' : k4 s a = some f := h
    unfold k4 at h'
    split at h'
    · simp at h'; subst h'; exact hdot _ _ _ ha
    · exact absurd h' (by simp)
  · have h' : kd s a = some f := by
      match i, hi with
      | i + 3, _ => exact h
    unfold kd at h'
    split at h'
    · exact absurd h' (by simp)
    · split at h'
      · simp at h'; subst h'; exact ⟨hd a ha, by simp⟩
      · split at h'
        · simp at h'; subst h'; exact ⟨hd a ha, by simp⟩
        · simp at h'; subst h'; exact ⟨hd a ha, by simp⟩
set_option maxHeartbeats 3200000 in
theorem numberAt_any (s : ByteArray) (a kb b0 b1 b2 bc b3 cp : Nat) (w : World) (hk : Kn s kb b0 b1 b2 bc b3 w) (ht : Tab0 w) (ha : a ≤ s.size) (hs : s.size ≤ 65536) :
    Calls Tryz.prog 51 #[.string s, .int .i64 a, .slice (some ⟨kb, 0, none⟩) 4 cp] w fun e w' => e = .returned (kdV (na s a)) ∧ Below w.heap.size w w' := by
  have HL0 : Hid (Np s kb b0 b1 b2 bc b3 w (w.alloc (.cells (fdc ⟨0, 0, 0, 0⟩) 71))) := ⟨Rz.new w, hk.on (Rz.new w).low, ht.on (Rz.new w).low⟩
  obtain ⟨W0, hW0⟩ : ∃ W0, W0 = w.alloc (.cells (fdc ⟨0, 0, 0, 0⟩) 71) := ⟨_, rfl⟩
  have HW0 : Hid (w.alloc (.cells #[.int .i8 0, .int .i64 0, .int .u64 0, .int .i64 0] 71) = W0) := hW0.symm
  rw [← hW0] at HL0
  clear hW0 hk ht
  go_enter Tryz.func51, Tryz.ntmps51
  go_upto_region 1 with fail
  rw [HW0.out]
  clear HW0
  go_upto_region 2 with fail
  go_loopw [14] (fun vi wr => ∃ i : Nat, vi = .int .i64 i ∧ i ≤ 4 ∧ Hid (∀ j, j < i → kk s a j = none) ∧ Hid (Np s kb b0 b1 b2 bc b3 w wr)) (fun vi _ => 4 - (intOf vi).toNat)
  case atStart => exact ⟨0, rfl, by omega, fun j hj => absurd hj (by omega), HL0.out⟩
  case round =>
    clear HL0
    obtain ⟨i, rfl, hi, HN, HL⟩ := hrel
    by_cases hl : i < 4
    · have g1 : decide ((i : Int) < 4) = true := by simp; omega
      have hw1 : IntKind.i64.wrap ((i : Int) + 1) = (i : Int) + 1 := by rw [IntKind.wrap_i64]; omega
      obtain ⟨f, caps, hc, hE, hC⟩ := kind_i HL.out.kn HL.out.tb ha hs hl
      have HE := hid hE
      have HC := hid hC
      clear hE hC
      cases hq : kk s a i with
      | none =>
        rw [hq] at HC
        have HN2 : Hid (∀ j, j < i + 1 → kk s a j = none) := fun j hj => by
          by_cases e : j = i
          · subst e; exact hq
          · exact HN.out j (by omega)
        clear HN hq
        go_wp2_with (refine callC f (.tmp 19) [.tmp 20] _ [.int .i64 (a : Int)] caps rfl rfl rfl rfl HE.out _ HC.out ?_; rintro r W2 ⟨rfl, hb2⟩; have HL2 := hid (HL.out.on hb2); refine Or.inl ⟨_, rfl, ?_⟩; clear HC hb2 hc)
        have HL3 := hid (HL2.out.on ((Below.refl _ _).alloc (Nat.le_refl _) (.cells (fdc ⟨0, 0, 0, 0⟩) 71)))
        refine ⟨?_, ?_⟩
        · exact ⟨i + 1, by go_num, by omega, HN2, HL3⟩
        · simp [intOf]; omega
      | some fd =>
        rw [hq] at HC
        have HS := hid (na_some hl HN.out hq)
        obtain ⟨hfe, hfc⟩ := kk_le ha hq
        clear HN hq
        obtain ⟨k, e, n, c⟩ := fd
        replace hfe : e ≤ s.size := hfe
        replace hfc : c < 256 := hfc
        have HI := hid (fun W => isNameByte_any (bt s e) W)
        by_cases hc0 : c = 0
        · subst hc0
          by_cases hes : e < s.size
          · have g2 : decide ((e : Int) < (s.size : Int)) = true := by simp; omega
            have hix := run_bt s e hes
            cases hN : isN (bt s e) with
            | true =>
              have HF : Hid (na s a = some ⟨0, e, 0, 150⟩) := by show _ = _; rw [HS.out, fin, if_pos ⟨rfl, hN⟩]
              rw [hN] at HI
              generalize bt s e = cb at hix HI
              have HW := hid (wrong_any e 150)
              clear HS hN hfc
              go_wp2_with (first
                | (refine callC f (.tmp 19) [.tmp 20] _ [.int .i64 (a : Int)] caps rfl rfl rfl rfl HE.out _ HC.out ?_; rintro r W2 ⟨rfl, hb2⟩; have HL2 := hid (HL.out.on hb2); have HL3 := hid (HL2.out.on ((Below.refl _ _).alloc (Nat.le_refl _) (.cells (fdc ⟨k, e, n, 0⟩) 71))); refine Or.inl ⟨_, rfl, ?_⟩; clear HC hb2 hc)
                | (go_at_call 52; refine (HI.out _).mono ?_; rintro r w' ⟨rfl, hw⟩; obtain rfl := hw.symm)
                | (go_at_call 73; refine (HW.out _).mono ?_; rintro r W4 ⟨rfl, hb4⟩; have HL4 := hid (HL3.out.on hb4); clear hb4 HW)
                | (refine stRow 71 (.tmp 6) (.tmp 46) rfl rfl w.heap.size (fdc ⟨0, e, 0, 150⟩) rfl rfl 71 _ HL4.out.rz.blk (fd4 _) rfl (fd1 _) ?_))
              try simp only [Exit.inBlock, Exit.then]
              refine bodyPost_ret (v := kdV (some ⟨0, e, 0, 150⟩)) (results_ct Tryz.results51 _ _ w.heap.size ⟨0, e, 0, 150⟩ rfl ?_) rfl ?_
              · exact (HL4.out.rz.set _).blk
              · exact ⟨by rw [HF.out], (HL4.out.rz.set _).low⟩
            | false =>
              have HF : Hid (na s a = some ⟨k, e, n, 0⟩) := by show _ = _; rw [HS.out, fin, if_neg (by intro h; rw [hN] at h; exact absurd h.2 (by decide))]
              rw [hN] at HI
              generalize bt s e = cb at hix HI
              clear HS hN hfc
              go_wp2_with (first
                | (refine callC f (.tmp 19) [.tmp 20] _ [.int .i64 (a : Int)] caps rfl rfl rfl rfl HE.out _ HC.out ?_; rintro r W2 ⟨rfl, hb2⟩; have HL2 := hid (HL.out.on hb2); have HL3 := hid (HL2.out.on ((Below.refl _ _).alloc (Nat.le_refl _) (.cells (fdc ⟨k, e, n, 0⟩) 71))); refine Or.inl ⟨_, rfl, ?_⟩; clear HC hb2 hc)
                | (go_at_call 52; refine (HI.out _).mono ?_; rintro r w' ⟨rfl, hw⟩; obtain rfl := hw.symm)
                | (refine stRow 71 (.tmp 6) (.tmp 48) rfl rfl w.heap.size (fdc ⟨k, e, n, 0⟩) rfl rfl 71 _ HL3.out.rz.blk (fd4 _) rfl (fd1 _) ?_))
              try simp only [Exit.inBlock, Exit.then]
              refine bodyPost_ret (v := kdV (some ⟨k, e, n, 0⟩)) (results_ct Tryz.results51 _ _ w.heap.size ⟨k, e, n, 0⟩ rfl ?_) rfl ?_
              · exact (HL3.out.rz.set _).blk
              · exact ⟨by rw [HF.out], (HL3.out.rz.set _).low⟩
          · have g2 : decide ((e : Int) < (s.size : Int)) = false := by simp; omega
            have HF : Hid (na s a = some ⟨k, e, n, 0⟩) := by show _ = _; rw [HS.out, fin, if_neg (by intro h; replace h : isN (bt s e) = true := h.2; rw [bt_out hes] at h; exact absurd h (by decide))]
            clear HS hfc HI
            go_wp2_with (first
              | (refine callC f (.tmp 19) [.tmp 20] _ [.int .i64 (a : Int)] caps rfl rfl rfl rfl HE.out _ HC.out ?_; rintro r W2 ⟨rfl, hb2⟩; have HL2 := hid (HL.out.on hb2); have HL3 := hid (HL2.out.on ((Below.refl _ _).alloc (Nat.le_refl _) (.cells (fdc ⟨k, e, n, 0⟩) 71))); refine Or.inl ⟨_, rfl, ?_⟩; clear HC hb2 hc)
              | (refine stRow 71 (.tmp 6) (.tmp 48) rfl rfl w.heap.size (fdc ⟨k, e, n, 0⟩) rfl rfl 71 _ HL3.out.rz.blk (fd4 _) rfl (fd1 _) ?_))
            try simp only [Exit.inBlock, Exit.then]
            refine bodyPost_ret (v := kdV (some ⟨k, e, n, 0⟩)) (results_ct Tryz.results51 _ _ w.heap.size ⟨k, e, n, 0⟩ rfl ?_) rfl ?_
            · exact (HL3.out.rz.set _).blk
            · exact ⟨by rw [HF.out], (HL3.out.rz.set _).low⟩
        · have g2 : (((c : Nat) : Int) == 0) = false := by simp; omega
          have HF : Hid (na s a = some ⟨k, e, n, c⟩) := by show _ = _; rw [HS.out, fin, if_neg (fun h => hc0 h.1)]
          clear HS HI
          go_wp2_with (first
            | (refine callC f (.tmp 19) [.tmp 20] _ [.int .i64 (a : Int)] caps rfl rfl rfl rfl HE.out _ HC.out ?_; rintro r W2 ⟨rfl, hb2⟩; have HL2 := hid (HL.out.on hb2); have HL3 := hid (HL2.out.on ((Below.refl _ _).alloc (Nat.le_refl _) (.cells (fdc ⟨k, e, n, c⟩) 71))); refine Or.inl ⟨_, rfl, ?_⟩; clear HC hb2 hc)
            | (refine stRow 71 (.tmp 6) (.tmp 48) rfl rfl w.heap.size (fdc ⟨k, e, n, c⟩) rfl rfl 71 _ HL3.out.rz.blk (fd4 _) rfl (fd1 _) ?_))
          try simp only [Exit.inBlock, Exit.then]
          refine bodyPost_ret (v := kdV (some ⟨k, e, n, c⟩)) (results_ct Tryz.results51 _ _ w.heap.size ⟨k, e, n, c⟩ rfl ?_) rfl ?_
          · exact (HL3.out.rz.set _).blk
          · exact ⟨by rw [HF.out], (HL3.out.rz.set _).low⟩
    · obtain rfl : i = 4 := by omega
      have g1 : decide ((4 : Int) < 4) = false := by decide
      have HS := hid (na_none HN.out)
      clear HN
      go_wp2_with (refine stRow 71 (.tmp 6) (.tmp 50) rfl rfl w.heap.size (fdc ⟨0, 0, 0, 0⟩) rfl rfl 71 _ HL.out.rz.blk (fd4 _) rfl (fd1 _) ?_)
      try simp only [Exit.inBlock, Exit.then]
      refine bodyPost_ret (v := kdV none) (results_ct Tryz.results51 _ _ w.heap.size ⟨0, 0, 0, 0⟩ rfl ?_) rfl ?_
      · exact (HL.out.rz.set _).blk
      · exact ⟨by rw [HS.out], (HL.out.rz.set _).low⟩
end Go.Proofs.YtoncogkamlgjhaaGreatDoor
namespace Go.Proofs.YtoncogkamlgjhaaGreatDoor
set_option maxRecDepth 100000
open Go.RowKit
set_option maxRecDepth 100000

theorem fin_flt {s : ByteArray} {f : Fd} (h : f.c ≠ 0) : fin s f = f := by unfold fin; rw [if_neg (fun h' => h h'.1)]
theorem fin_num {s : ByteArray} {e n : Nat} : fin s ⟨2, e, n, 0⟩ = cls s e n := by
  unfold fin cls
  by_cases h : isN (bt s e) = true
  · rw [if_pos ⟨rfl, h⟩, if_pos h]
  · rw [if_neg (fun h' => h h'.2), if_neg h]
theorem fin_dot {s : ByteArray} : ∀ f k n, fin s (dotR s f k n) = dot s f k n
  | 0, k, n => by rw [dotR, dot, fin_num]
  | f + 1, k, n => by
    rw [dotR, dot]
    split
    · split
      · exact fin_flt (by simp)
      · exact fin_dot f _ _
    · split
      · split
        · exact fin_flt (by simp)
        · exact fin_dot f _ _
      · exact fin_flt (by simp)
theorem na_num {s : ByteArray} {a : Nat} (hH : isH (bt s a) = true) : na s a = if (pr s a).isSome = true ∨ isD (bt s a) = true then some (num s a) else none := by
  unfold na num
  cases hp : pr s a with
  | some n =>
    rw [show k6 s a = some ⟨2, a + 17, n, 0⟩ by unfold k6; rw [hp]; rfl, if_pos (.inl rfl)]
    show some (fin s ⟨2, a + 17, n, 0⟩) = _
    rw [fin_num]
  | none =>
    rw [show k6 s a = none by unfold k6; rw [hp]; rfl]
    show ((kx s a).orElse fun _ => (k4 s a).orElse fun _ => kd s a).map (fin s) = _
    by_cases hx0 : bt s a = 48 ∧ bt s (a + 1) = 120
    · rw [if_pos (.inr (by rw [hx0.1]; decide))]
      show _ = some (if bt s a = 48 ∧ bt s (a + 1) = 120 then hex s a else if bt s (rE isD s a) = 46 then dot s 4 a 0 else dec s a)
      rw [if_pos hx0]
      unfold kx hex
      rw [if_pos hx0]
      split
      · show some (fin s _) = _; rw [fin_flt (by simp)]
      · show some (fin s _) = _; rw [fin_num]
    · rw [show kx s a = none by unfold kx; rw [if_neg hx0]]
      show ((k4 s a).orElse fun _ => kd s a).map (fin s) = _
      by_cases hD : isD (bt s a) = true
      · rw [if_pos (.inr hD)]
        show _ = some (if bt s a = 48 ∧ bt s (a + 1) = 120 then hex s a else if bt s (rE isD s a) = 46 then dot s 4 a 0 else dec s a)
        rw [if_neg hx0]
        by_cases h4 : bt s (rE isD s a) = 46
        · rw [if_pos h4, show k4 s a = some (dotR s 4 a 0) by unfold k4; rw [if_pos h4]]
          show some (fin s _) = _; rw [fin_dot]
        · rw [if_neg h4, show k4 s a = none by unfold k4; rw [if_neg h4]]
          show (kd s a).map (fin s) = _
          have := rE_D hD
          unfold kd dec
          rw [if_neg (by omega)]
          split
          · show some (fin s _) = _; rw [fin_flt (by simp)]
          · split
            · show some (fin s _) = _; rw [fin_flt (by simp)]
            · show some (fin s _) = _; rw [fin_num]
      · have hDf : isD (bt s a) = false := by simpa using hD
        have he : rE isD s a = a := rE_end hDf
        rw [if_neg (by rintro (h | h); exact absurd h (by decide); exact hD h)]
        rw [show k4 s a = none by
          unfold k4; rw [he, if_neg]
          intro h; rw [h] at hH; exact absurd hH (by decide)]
        rw [show kd s a = none by unfold kd; rw [if_pos he]]
        rfl
theorem one_H {s : ByteArray} {a : Nat} (hH : isH (bt s a) = true) : one s a = (na s a).getD (nam s a) := by
  rw [na_num hH]; unfold one
  split
  · rfl
  · rename_i h
    rw [if_pos]
    · rfl
    · have hD : isD (bt s a) = false := by
        cases h' : isD (bt s a)
        · rfl
        · exact absurd (.inr h') h
      rw [isH_iff] at hH
      rw [isL_iff]
      have : ¬ (48 ≤ bt s a ∧ bt s a ≤ 57) := fun h => by rw [(isD_iff _).2 h] at hD; exact absurd hD (by decide)
      omega
theorem not_pr {s : ByteArray} {a : Nat} (hH : isH (bt s a) = false) : ¬ ((pr s a).isSome = true ∨ isD (bt s a) = true) := by
  rintro (h | h)
  · cases hp : pr s a with
    | none => rw [hp] at h; exact absurd h (by decide)
    | some n => rw [pr_H hp] at hH; exact absurd hH (by decide)
  · rw [isD_iff] at h
    have : isH (bt s a) = true := by rw [isH_iff]; exact .inl h
    rw [this] at hH; exact absurd hH (by decide)
theorem one_N {s : ByteArray} {a : Nat} (hH : isH (bt s a) = false) (hN : isN (bt s a) = true) : one s a = nam s a := by
  unfold one
  rw [if_neg (not_pr hH), if_pos]
  have h0 : ¬ (48 ≤ bt s a ∧ bt s a ≤ 57) := fun h => not_pr hH (.inr ((isD_iff _).2 h))
  rw [isN_iff] at hN
  rw [isL_iff]; omega
theorem one_S {s : ByteArray} {a : Nat} (hH : isH (bt s a) = false) (hN : isN (bt s a) = false) : one s a = if bt s a = 58 ∧ bt s (a + 1) = 61 then ⟨3, a + 2, 0, 0⟩ else if bt s a ∈ sgn then ⟨3, a + 1, 0, 0⟩ else ⟨0, a + 1, 0, 150⟩ := by
  unfold one
  rw [if_neg (not_pr hH), if_neg]
  intro h
  unfold isN at hN; rw [h] at hN; exact absurd hN (by simp)
set_option maxHeartbeats 3200000 in
theorem wordAt_any (s : ByteArray) (a kb b0 b1 b2 bc b3 cp : Nat) (w : World) (hk : Kn s kb b0 b1 b2 bc b3 w) (ht : Tab0 w) (ha : a < s.size) (hs : s.size ≤ 65536) :
    Calls Tryz.prog 28 #[.string s, .int .i64 a, .slice (some ⟨kb, 0, none⟩) 4 cp] w fun e w' => e = .returned (.agg (fdc (one s a))) ∧ Below w.heap.size w w' := by
  have HZ := hid (Rz.new w)
  have HKn := hid (hk.on HZ.out.low)
  have HT := hid (ht.on HZ.out.low)
  obtain ⟨W0, hW0⟩ : ∃ W0, W0 = w.alloc (.cells (fdc ⟨0, 0, 0, 0⟩) 71) := ⟨_, rfl⟩
  have HW0 : Hid (w.alloc (.cells #[.int .i8 0, .int .i64 0, .int .u64 0, .int .i64 0] 71) = W0) := hW0.symm
  rw [← hW0] at HZ HKn HT
  clear hW0 hk ht
  have hix := run_bt s a ha W0
  have HH := hid (isHexDigit_any (bt s a) W0)
  cases hH : isH (bt s a) with
  | true =>
    have H1 := hid (one_H hH)
    rw [hH] at HH
    have HNa := hid (numberAt_any s a kb b0 b1 b2 bc b3 cp W0 HKn.out HT.out (by omega) hs)
    have HNm := hid (fun W => nameAt_any s a W (by omega) hs)
    generalize bt s a = c at hix HH
    clear hH HKn HT
    cases hn : na s a with
    | some f =>
      obtain ⟨k, e, n, cc⟩ := f
      have H2 : Hid (one s a = ⟨k, e, n, cc⟩) := by show _ = _; rw [H1.out, hn]; rfl
      rw [hn] at HNa
      clear hn H1 HNm
      go_enter Tryz.func28, Tryz.ntmps28
      go_upto_region 1 with fail
      rw [HW0.out]
      clear HW0
      go_wp2_with (first
        | (go_at_call 50; refine (HH.out).mono ?_; rintro r w' ⟨rfl, hw⟩; obtain rfl := hw.symm)
        | (go_at_call 51; refine (HNa.out).mono ?_; rintro r W2 ⟨rfl, hb2⟩; have HZ2 := hid ((HZ.out.on hb2).on ((Below.refl _ _).alloc (Nat.le_refl _) (.cells (fdc ⟨k, e, n, cc⟩) 71))); clear hb2 HNa)
        | (refine stRow 71 (.tmp 6) (.tmp 36) rfl rfl w.heap.size (fdc ⟨k, e, n, cc⟩) rfl rfl 71 _ HZ2.out.blk (fd4 _) rfl (fd1 _) ?_))
      try simp only [Exit.inBlock, Exit.then]
      refine bodyPost_ret (v := .agg (fdc ⟨k, e, n, cc⟩)) (results_c Tryz.results28 _ _ w.heap.size ⟨k, e, n, cc⟩ rfl ?_) rfl ?_
      · exact (HZ2.out.set _).blk
      · exact ⟨by rw [H2.out], (HZ2.out.set _).low⟩
    | none =>
      have H2 : Hid (one s a = nam s a) := by show _ = _; rw [H1.out, hn]; rfl
      rw [hn] at HNa
      generalize nam s a = fd at HNm H2
      obtain ⟨k, e, n, cc⟩ := fd
      clear hn H1
      go_enter Tryz.func28, Tryz.ntmps28
      go_upto_region 1 with fail
      rw [HW0.out]
      clear HW0
      go_wp2_with (first
        | (go_at_call 50; refine (HH.out).mono ?_; rintro r w' ⟨rfl, hw⟩; obtain rfl := hw.symm)
        | (go_at_call 51; refine (HNa.out).mono ?_; rintro r W2 ⟨rfl, hb2⟩; have HZ2 := hid ((HZ.out.on hb2).on ((Below.refl _ _).alloc (Nat.le_refl _) (.cells (fdc ⟨0, 0, 0, 0⟩) 71))); clear hb2 HNa)
        | (go_at_call 53; refine (HNm.out _).mono ?_; rintro r W3 ⟨rfl, hb3⟩; have HZ3 := hid (HZ2.out.on hb3); clear hb3 HNm)
        | (refine stRow 71 (.tmp 6) (.tmp 39) rfl rfl w.heap.size (fdc ⟨k, e, n, cc⟩) rfl rfl 71 _ HZ3.out.blk (fd4 _) rfl (fd1 _) ?_))
      try simp only [Exit.inBlock, Exit.then]
      refine bodyPost_ret (v := .agg (fdc ⟨k, e, n, cc⟩)) (results_c Tryz.results28 _ _ w.heap.size ⟨k, e, n, cc⟩ rfl ?_) rfl ?_
      · exact (HZ3.out.set _).blk
      · exact ⟨by rw [H2.out], (HZ3.out.set _).low⟩
  | false =>
    rw [hH] at HH
    have HN := hid (isNameByte_any (bt s a) W0)
    cases hN : isN (bt s a) with
    | true =>
      have H2 := hid (one_N hH hN)
      rw [hN] at HN
      have HNm := hid (fun W => nameAt_any s a W (by omega) hs)
      generalize nam s a = fd at HNm H2
      obtain ⟨k, e, n, cc⟩ := fd
      generalize bt s a = c at hix HH HN
      clear hH hN HKn HT
      go_enter Tryz.func28, Tryz.ntmps28
      go_upto_region 1 with fail
      rw [HW0.out]
      clear HW0
      go_wp2_with (first
        | (go_at_call 50; refine (HH.out).mono ?_; rintro r w' ⟨rfl, hw⟩; obtain rfl := hw.symm)
        | (go_at_call 52; refine (HN.out).mono ?_; rintro r w' ⟨rfl, hw⟩; obtain rfl := hw.symm)
        | (go_at_call 53; refine (HNm.out _).mono ?_; rintro r W3 ⟨rfl, hb3⟩; have HZ3 := hid (HZ.out.on hb3); clear hb3 HNm)
        | (refine stRow 71 (.tmp 6) (.tmp 39) rfl rfl w.heap.size (fdc ⟨k, e, n, cc⟩) rfl rfl 71 _ HZ3.out.blk (fd4 _) rfl (fd1 _) ?_))
      try simp only [Exit.inBlock, Exit.then]
      refine bodyPost_ret (v := .agg (fdc ⟨k, e, n, cc⟩)) (results_c Tryz.results28 _ _ w.heap.size ⟨k, e, n, cc⟩ rfl ?_) rfl ?_
      · exact (HZ3.out.set _).blk
      · exact ⟨by rw [H2.out], (HZ3.out.set _).low⟩
    | false =>
      have H1 := hid (one_S hH hN)
      rw [hN] at HN
      have HP := hid (hasPrefix_any (s.extract a s.size) 58 61 (by rw [size_ext (Nat.le_refl _)]; omega) W0)
      rw [ext_from 0 (by omega), ext_from 1 (by omega), Nat.add_zero, show (58 : UInt8).toNat = 58 from rfl, show (61 : UInt8).toNat = 61 from rfl] at HP
      have HI := hid (idx_any (bt s a) (bt_lt ha) W0)
      clear hH hN HKn HT
      have g1 : IntKind.i64.wrap ((a : Int) + 1) = (a : Int) + 1 := by rw [IntKind.wrap_i64]; omega
      have g2 : IntKind.i64.wrap ((a : Int) + 2) = (a : Int) + 2 := by rw [IntKind.wrap_i64]; omega
      by_cases hc : bt s a = 58 ∧ bt s (a + 1) = 61
      · have H2 : Hid (one s a = ⟨3, a + 2, 0, 0⟩) := by show _ = _; rw [H1.out, if_pos hc]
        rw [decide_eq_true hc] at HP
        clear H1 HI hc
        generalize bt s a = c at hix HH HN
        go_enter Tryz.func28, Tryz.ntmps28
        go_upto_region 1 with fail
        rw [HW0.out]
        clear HW0
        go_wp2_with (first
          | (go_at_call 50; refine (HH.out).mono ?_; rintro r w' ⟨rfl, hw⟩; obtain rfl := hw.symm)
          | (go_at_call 52; refine (HN.out).mono ?_; rintro r w' ⟨rfl, hw⟩; obtain rfl := hw.symm)
          | (go_at_call 54; refine (HP.out).mono ?_; rintro r w' ⟨rfl, hw⟩; obtain rfl := hw.symm)
          | (refine stRow 71 (.tmp 6) (.tmp 42) rfl rfl w.heap.size (fdc ⟨3, a + 2, 0, 0⟩) rfl rfl 71 _ HZ.out.blk (fd4 _) rfl (fd1 _) ?_))
        try simp only [Exit.inBlock, Exit.then]
        refine bodyPost_ret (v := .agg (fdc ⟨3, a + 2, 0, 0⟩)) (results_c Tryz.results28 _ _ w.heap.size ⟨3, a + 2, 0, 0⟩ rfl ?_) rfl ?_
        · exact (HZ.out.set _).blk
        · exact ⟨by rw [H2.out], (HZ.out.set _).low⟩
      · rw [decide_eq_false hc] at HP
        by_cases hg : bt s a ∈ sgn
        · have H2 : Hid (one s a = ⟨3, a + 1, 0, 0⟩) := by show _ = _; rw [H1.out, if_neg hc, if_pos hg]
          rw [decide_eq_true hg] at HI
          clear H1 hc hg
          generalize bt s a = c at hix HH HN HI
          go_enter Tryz.func28, Tryz.ntmps28
          go_upto_region 1 with fail
          rw [HW0.out]
          clear HW0
          go_wp2_with (first
            | (go_at_call 50; refine (HH.out).mono ?_; rintro r w' ⟨rfl, hw⟩; obtain rfl := hw.symm)
            | (go_at_call 52; refine (HN.out).mono ?_; rintro r w' ⟨rfl, hw⟩; obtain rfl := hw.symm)
            | (go_at_call 54; refine (HP.out).mono ?_; rintro r w' ⟨rfl, hw⟩; obtain rfl := hw.symm)
            | (go_at_call 55; refine (HI.out).mono ?_; rintro r w' ⟨⟨q, rfl, hq⟩, hw⟩; obtain rfl := hw.symm)
            | (refine stRow 71 (.tmp 6) (.tmp 45) rfl rfl w.heap.size (fdc ⟨3, a + 1, 0, 0⟩) rfl rfl 71 _ HZ.out.blk (fd4 _) rfl (fd1 _) ?_))
          try simp only [Exit.inBlock, Exit.then]
          refine bodyPost_ret (v := .agg (fdc ⟨3, a + 1, 0, 0⟩)) (results_c Tryz.results28 _ _ w.heap.size ⟨3, a + 1, 0, 0⟩ rfl ?_) rfl ?_
          · exact (HZ.out.set _).blk
          · exact ⟨by rw [H2.out], (HZ.out.set _).low⟩
        · have H2 : Hid (one s a = ⟨0, a + 1, 0, 150⟩) := by show _ = _; rw [H1.out, if_neg hc, if_neg hg]
          rw [decide_eq_false hg] at HI
          clear H1 hc hg
          generalize bt s a = c at hix HH HN HI
          go_enter Tryz.func28, Tryz.ntmps28
          go_upto_region 1 with fail
          rw [HW0.out]
          clear HW0
          go_wp2_with (first
            | (go_at_call 50; refine (HH.out).mono ?_; rintro r w' ⟨rfl, hw⟩; obtain rfl := hw.symm)
            | (go_at_call 52; refine (HN.out).mono ?_; rintro r w' ⟨rfl, hw⟩; obtain rfl := hw.symm)
            | (go_at_call 54; refine (HP.out).mono ?_; rintro r w' ⟨rfl, hw⟩; obtain rfl := hw.symm)
            | (go_at_call 55; refine (HI.out).mono ?_; rintro r w' ⟨⟨q, rfl, hq⟩, hw⟩; obtain rfl := hw.symm)
            | (refine stRow 71 (.tmp 6) (.tmp 48) rfl rfl w.heap.size (fdc ⟨0, a + 1, 0, 150⟩) rfl rfl 71 _ HZ.out.blk (fd4 _) rfl (fd1 _) ?_))
          try simp only [Exit.inBlock, Exit.then]
          refine bodyPost_ret (v := .agg (fdc ⟨0, a + 1, 0, 150⟩)) (results_c Tryz.results28 _ _ w.heap.size ⟨0, a + 1, 0, 150⟩ rfl ?_) rfl ?_
          · exact (HZ.out.set _).blk
          · exact ⟨by rw [H2.out], (HZ.out.set _).low⟩
end Go.Proofs.YtoncogkamlgjhaaGreatDoor
