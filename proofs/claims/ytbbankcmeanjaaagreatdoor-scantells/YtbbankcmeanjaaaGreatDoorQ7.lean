/-
  Proved here: nameAt, the kinds of numbers as closures in memory (numberKinds), and numberAt of package scan; strings.IndexByte at the signs. No old memory turns. Conditions: strconv's errors are some; the place is within the text.
-/
import Derived.Test.YtbbankcmeanjaaaGreatDoorQ6
import Derived.Lib.Bytealg
namespace Go.Proofs.YtbbankcmeanjaaaGreatDoor
set_option maxRecDepth 100000
open Go.RowKit
set_option maxRecDepth 100000

theorem slIndexByte_any (s : ByteArray) (c : Int) (w : World) :
    Calls Tryz.prog 49 #[.string s, .int .u8 c] w fun e w' => e = .returned (.int .i64 (Lib.indexByte s.data.toList c.toNat.toUInt8)) ∧ w' = w := by
  go_enter Tryz.func49, Tryz.ntmps49
  go_wp2
  rw [run_callFunc_extern Tryz.func59 (by kernel_rfl) (by kernel_rfl) (by kernel_rfl) (e := Extern.BytealgIndexByte.indexByte) (by kernel_rfl), Lib.run_indexByteString]
  simp only [Result.andThen]
  rw [Oper.upon_value]
  go_wp2
  go_ret
  exact ⟨rfl, rfl⟩
abbrev sgB : ByteArray := ⟨#[43, 59, 42, 61, 33, 38, 124, 40, 41, 123, 125]⟩
theorem sgn_all : ((List.range 256).all fun c => decide (0 ≤ Lib.indexByte sgB.data.toList ((c : Int)).toNat.toUInt8) == decide (c ∈ sgn)) = true := by kernel_rfl
theorem idx_any (c : Nat) (hc : c < 256) (w : World) : Calls Tryz.prog 24 #[.string sgB, .int .u8 c] w fun e w' => (∃ r : Int, e = .returned (.int .i64 r) ∧ decide (0 ≤ r) = decide (c ∈ sgn)) ∧ w' = w := by
  have hq := List.all_eq_true.1 sgn_all c (List.mem_range.2 hc)
  have HC := hid (slIndexByte_any sgB c w)
  have HQ := hid (eq_of_beq hq)
  generalize Lib.indexByte sgB.data.toList ((c : Int)).toNat.toUInt8 = r at HC HQ
  clear hq
  go_enter Tryz.func24, Tryz.ntmps24
  go_wp2_with (go_at_call 49; refine (HC.out).mono ?_; rintro e w' ⟨rfl, rfl⟩; clear HC)
  go_ret
  exact ⟨⟨r, rfl, HQ.out⟩, rfl⟩

/-- The answer of a function with what is found in a block. -/
theorem results_c {fn : Func} {p : Tmp} (h : fn.results = #[.cell p 45]) (tmps : Array Value) (w : World) (g : Nat) (f : Fd)
    (hp : tmps.getD p undef = .pointer (some ⟨g, 0, none⟩)) (hg : w.heap[g]? = some (.cells (fdc f) 45 (0, 0))) :
    (results fn tmps).run Tryz.prog w = .ok (.agg (fdc f)) w :=
  results_cell_row h tmps w g 45 (fdc f) (0, 0) _ hp hg Tryz.underlying45 rfl (fd4 f)
theorem nameAt_any (s : ByteArray) (a : Nat) (w : World) (ha : a ≤ s.size) (hs : s.size ≤ 65536) :
    Calls Tryz.prog 22 #[.string s, .int .i64 a] w fun e w' => e = .returned (.agg (fdc (nam s a))) ∧ Below w.heap.size w w' := by
  have HE := hid (fun W => runEnd_any tellsN s a ha (by omega) W)
  have hge := rE_ge isN s a
  have hle := rE_le (p := isN) ha
  have HK : Hid (nam s a = if 32 < rE isN s a - a then ⟨0, rE isN s a, 0, 3⟩ else ⟨1, rE isN s a, 0, 0⟩) := rfl
  generalize rE isN s a = e at HE hge hle HK
  have g0 : IntKind.i64.wrap ((e : Int) - (a : Int)) = (e : Int) - (a : Int) := by rw [IntKind.wrap_i64]; omega
  by_cases h : 32 < e - a
  · have g1 : decide ((32 : Int) < (e : Int) - (a : Int)) = true := by simp; omega
    have hr : nam s a = ⟨0, e, 0, 3⟩ := by rw [HK.out, if_pos h]
    rw [hr]; clear hr HK h
    go_enter Tryz.func22, Tryz.ntmps22
    go_wp2_with (go_at_call 40; refine (HE.out _).mono ?_; rintro e w' ⟨rfl, hw⟩; obtain rfl := hw.symm)
    refine bodyPost_ret (v := .agg (fdc ⟨0, e, 0, 3⟩)) (results_c Tryz.results22 _ _ w.heap.size ⟨0, e, 0, 3⟩ rfl ?_) rfl ?_
    · exact heap_alloc_new _ _
    · exact ⟨rfl, (Below.refl _ _).alloc (Nat.le_refl _) _⟩
  · have g1 : decide ((32 : Int) < (e : Int) - (a : Int)) = false := by simp; omega
    have hr : nam s a = ⟨1, e, 0, 0⟩ := by rw [HK.out, if_neg h]
    rw [hr]; clear hr HK h
    go_enter Tryz.func22, Tryz.ntmps22
    go_wp2_with (go_at_call 40; refine (HE.out _).mono ?_; rintro e w' ⟨rfl, hw⟩; obtain rfl := hw.symm)
    refine bodyPost_ret (v := .agg (fdc ⟨1, e, 0, 0⟩)) (results_c Tryz.results22 _ _ w.heap.size ⟨1, e, 0, 0⟩ rfl ?_) rfl ?_
    · exact heap_alloc_new _ _
    · exact ⟨rfl, (Below.refl _ _).alloc (Nat.le_refl _) _⟩

abbrev ptr (b : Nat) : Value := .pointer (some ⟨b, 0, none⟩)
abbrev cl1 (f b : Nat) : Value := .func (.func f) #[] #[ptr b]
abbrev cl2 (f b c : Nat) : Value := .func (.func f) #[] #[ptr b, ptr c]
theorem six_mk (s : ByteArray) (w : World) : Calls Tryz.prog 15 #[.string s] w fun e w' => e = .returned (cl1 36 w.heap.size) ∧ w' = w.alloc (.cells #[.string s] 9) := by
  go_enter Tryz.func15, Tryz.ntmps15
  go_wp2
  go_ret
  exact ⟨rfl, rfl⟩
theorem hex_mk (s : ByteArray) (w : World) : Calls Tryz.prog 16 #[.string s] w fun e w' => e = .returned (cl1 39 w.heap.size) ∧ w' = w.alloc (.cells #[.string s] 9) := by
  go_enter Tryz.func16, Tryz.ntmps16
  go_wp2
  go_ret
  exact ⟨rfl, rfl⟩
theorem dec_mk (s : ByteArray) (w : World) : Calls Tryz.prog 18 #[.string s] w fun e w' => e = .returned (cl1 47 w.heap.size) ∧ w' = w.alloc (.cells #[.string s] 9) := by
  go_enter Tryz.func18, Tryz.ntmps18
  go_wp2
  go_ret
  exact ⟨rfl, rfl⟩
theorem four_mk (s : ByteArray) (w : World) : Calls Tryz.prog 17 #[.string s] w fun e w' => e = .returned (cl2 43 (w.heap.size + 1) w.heap.size) ∧ w' = (w.alloc (.cells #[.string s] 9)).alloc (.cells #[clD w.heap.size] 86) := by
  have hst : (store ⟨w.heap.size + 1, 0, none⟩ (clD w.heap.size)).run Tryz.prog ((w.alloc (.cells #[.string s] 9)).alloc (.cells #[.nilFunc] 86)) = .ok () ((w.alloc (.cells #[.string s] 9)).alloc (.cells #[clD w.heap.size] 86)) := by
    rw [run_store Tryz.prog _ _ _ _ (by rfl)]
    have hg : ((w.alloc (.cells #[.string s] 9)).alloc (.cells #[.nilFunc] 86)).heap[w.heap.size + 1]? = some (.cells #[.nilFunc] 86 (0, 0)) := heap_alloc2_new _ _ _
    have hz : (w.alloc (.cells #[.string s] 9)).heap.size = w.heap.size + 1 := by simp
    rw [cell_of_row _ _ _ _ _ _ hg, setCell_eq_setRow _ _ _ _ _ _ _ hg]
    have hf : ((w.alloc (.cells #[.string s] 9)).alloc (.cells #[.nilFunc] 86)).frozen? ⟨w.heap.size + 1, 0, none⟩ = false := by unfold World.frozen?; rw [hg]; rfl
    rw [← hz, World.setRow_alloc_new, hz]
    simp [hf]
  go_enter Tryz.func17, Tryz.ntmps17
  go_wp2
  go_ret
  exact ⟨rfl, rfl⟩
/-- The kinds of numbers of a text, in a block. -/
structure Kn (s : ByteArray) (kb b0 b1 b2 bc b3 : Nat) (W : World) : Prop where
  k0 : W.cell? ⟨kb, 0, none⟩ = some (cl1 36 b0)
  k1 : W.cell? ⟨kb, 1, none⟩ = some (cl1 39 b1)
  k2 : W.cell? ⟨kb, 2, none⟩ = some (cl2 43 bc b2)
  k3 : W.cell? ⟨kb, 3, none⟩ = some (cl1 47 b3)
  s0 : W.cell? ⟨b0, 0, none⟩ = some (.string s)
  s1 : W.cell? ⟨b1, 0, none⟩ = some (.string s)
  cp : Cp s b2 bc W
  s3 : W.cell? ⟨b3, 0, none⟩ = some (.string s)
theorem Kn.on {s : ByteArray} {kb b0 b1 b2 bc b3 : Nat} {W W' : World} (h : Kn s kb b0 b1 b2 bc b3 W) (hb : Below W.heap.size W W') : Kn s kb b0 b1 b2 bc b3 W' :=
  ⟨(hb.cell (p := ⟨kb, 0, none⟩) (cell_lt h.k0)).trans h.k0, (hb.cell (p := ⟨kb, 1, none⟩) (cell_lt h.k1)).trans h.k1, (hb.cell (p := ⟨kb, 2, none⟩) (cell_lt h.k2)).trans h.k2, (hb.cell (p := ⟨kb, 3, none⟩) (cell_lt h.k3)).trans h.k3,
    (hb.cell (p := ⟨b0, 0, none⟩) (cell_lt h.s0)).trans h.s0, (hb.cell (p := ⟨b1, 0, none⟩) (cell_lt h.s1)).trans h.s1, h.cp.on hb, (hb.cell (p := ⟨b3, 0, none⟩) (cell_lt h.s3)).trans h.s3⟩
theorem blk_new {w : World} {o : Obj} {n : Nat} (h : n = w.heap.size) : (w.alloc o).heap[n]? = some o := by subst h; exact heap_alloc_new _ _
theorem blk_old {w : World} {o x : Obj} {n : Nat} (h : w.heap[n]? = some x) : (w.alloc o).heap[n]? = some x := by
  rw [Below.heap_alloc _ _ _ (Array.getElem?_eq_some_iff.1 h).1]; exact h
theorem kinds_any (s : ByteArray) (w : World) : Calls Tryz.prog 9 #[.string s] w fun e w' => (∃ kb b0 b1 b2 bc b3 c, e = .returned (.slice (some ⟨kb, 0, none⟩) 4 c) ∧ Kn s kb b0 b1 b2 bc b3 w') ∧ Below w.heap.size w w' := by
  go_enter Tryz.func9, Tryz.ntmps9
  go_wp2_with (first
    | (go_at_call 15; refine (six_mk s _).mono ?_; rintro e w' ⟨rfl, rfl⟩)
    | (go_at_call 16; refine (hex_mk s _).mono ?_; rintro e w' ⟨rfl, rfl⟩)
    | (go_at_call 17; refine (four_mk s _).mono ?_; rintro e w' ⟨rfl, rfl⟩)
    | (go_at_call 18; refine (dec_mk s _).mono ?_; rintro e w' ⟨rfl, rfl⟩))
  go_ret
  refine ⟨⟨_, w.heap.size, w.heap.size + 1, w.heap.size + 1 + 1, w.heap.size + 1 + 1 + 1, w.heap.size + 1 + 1 + 1 + 1, _, rfl, ?_⟩, ?_⟩
  · exact ⟨(cell_of_row _ _ _ _ _ _ (blk_new (by simp))).trans rfl, (cell_of_row _ _ _ _ _ _ (blk_new (by simp))).trans rfl, (cell_of_row _ _ _ _ _ _ (blk_new (by simp))).trans rfl, (cell_of_row _ _ _ _ _ _ (blk_new (by simp))).trans rfl, (cell_of_row _ _ _ _ _ _ (blk_old (blk_old (blk_old (blk_old (blk_old (blk_new (by simp)))))))).trans rfl, (cell_of_row _ _ _ _ _ _ (blk_old (blk_old (blk_old (blk_old (blk_new (by simp))))))).trans rfl, ⟨(cell_of_row _ _ _ _ _ _ (blk_old (blk_old (blk_new (by simp))))).trans rfl, (cell_of_row _ _ _ _ _ _ (blk_old (blk_old (blk_old (blk_new (by simp)))))).trans rfl⟩, (cell_of_row _ _ _ _ _ _ (blk_old (blk_new (by simp)))).trans rfl⟩
  · exact (((((Below.refl _ _).alloc (Nat.le_refl _) _).alloc (by simp) _).alloc (by simp; omega) _).alloc (by simp; omega) _).alloc (by simp; omega) _ |>.alloc (by simp; omega) _
end Go.Proofs.YtbbankcmeanjaaaGreatDoor
