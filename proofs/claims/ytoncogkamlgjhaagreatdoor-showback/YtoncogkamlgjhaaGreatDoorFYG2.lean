/-
  Proved here: byBytes and number of package show. Conditions: the tables.
-/
import Derived.Test.YtoncogkamlgjhaaGreatDoorFYG
namespace Go.Proofs.YtoncogkamlgjhaaGreatDoor
set_option maxRecDepth 100000
open Go.RowKit Go.Lib
set_option maxRecDepth 100000

theorem infoST : (Tryz.prog.info? 9).map (fun i => (i.zero, i.size, i.bytes)) = some (some (.string ⟨#[]⟩), 1, 16) := by kernel_rfl
theorem madeS (N : Nat) (hn : N ≤ 1024) : ∀ w, (Instr.makeSlice 63 (.int .i64 ((N : Nat) : Int)) (.int .i64 ((N : Nat) : Int))).run Tryz.prog w = .ok (.slice (some ⟨w.heap.size, 0, none⟩) N N) (w.alloc (.cells ((List.replicate N (⟨#[]⟩ : ByteArray)).map Value.string).toArray 9)) := by
  obtain ⟨i, hi, hz0, hz1, hz2⟩ := info_parts infoST
  intro w
  have := run_make (P := Tryz.prog) w 63 9 i (.string ⟨#[]⟩) Tryz.underlying63 hi hz0 .i64 .i64 ((N : Nat) : Int) ((N : Nat) : Int) (by omega) (Int.le_refl _) (by rw [hz2]; omega) (by omega)
  rw [hz1] at this
  have e : madeCells (Value.string ⟨#[]⟩).cells (((N : Nat) : Int).toNat * 1) = ((List.replicate N (⟨#[]⟩ : ByteArray)).map Value.string).toArray := by
    apply Array.ext_getElem?
    intro k
    by_cases hk : k < N
    · simp [madeCells, Value.cells, hk, Nat.mod_one]
    · simp [madeCells, Value.cells, hk]
  rw [e] at this
  simpa using this
theorem prt_0 (tx : Nat → List UInt8) (n cnt : Nat) : prt tx n cnt 0 = List.replicate cnt ⟨#[]⟩ := by
  unfold prt
  apply List.ext_getElem?
  intro k
  by_cases hk : k < cnt
  · simp [hk]
  · simp [hk]
theorem prt_len (tx : Nat → List UInt8) (n cnt j : Nat) : (prt tx n cnt j).length = cnt := by unfold prt; simp
theorem prt_set (tx : Nat → List UInt8) (n cnt j : Nat) (hj : j < cnt) : ((prt tx n cnt j).map Value.string).toArray.setIfInBounds j (.string ⟨(tx (nb n (cnt - 1 - j))).toArray⟩) = ((prt tx n cnt (j + 1)).map Value.string).toArray := by
  apply Array.ext_getElem?
  intro k
  rw [Array.getElem?_setIfInBounds]
  by_cases hk : k < cnt
  · by_cases e : j = k
    · subst e
      rw [if_pos rfl, if_pos (by simp [prt_len]; omega)]
      simp only [List.getElem?_toArray, List.getElem?_map, prt_at _ _ _ _ _ hk]
      simp
    · rw [if_neg e]
      simp only [List.getElem?_toArray, List.getElem?_map, prt_at _ _ _ _ _ hk]
      have : (k < j) ↔ (k < j + 1) := by omega
      simp [this]
  · have e : j ≠ k := by omega
    rw [if_neg e]
    simp [prt_len, hk]
theorem PtS.cell {w wr : World} {xs : List ByteArray} (h : PtS w xs wr) {j : Nat} {x : ByteArray} (hj : xs[j]? = some x) : wr.cell? ⟨w.heap.size, 0 + j, none⟩ = some (.string x) := by
  rw [Nat.zero_add, cell_of_row _ _ _ _ _ _ h.row]; simp [hj]
theorem join_len (xs : List ByteArray) (sep : List UInt8) (hs : sep.length ≤ 1) (hx : ∀ x ∈ xs, x.data.toList.length ≤ 3) : (Lib.join (xs.map (·.data.toList)) sep).length ≤ 4 * xs.length := by
  unfold Lib.join
  induction xs with
  | nil => simp
  | cons a xs ih =>
    have ha := hx a (List.mem_cons_self ..)
    have := ih fun x h => hx x (List.mem_cons_of_mem _ h)
    cases xs with
    | nil => simp [List.intercalate] at *; omega
    | cons b xs =>
      rw [List.map_cons, List.map_cons, List.intercalate_cons_cons]
      rw [List.map_cons] at this
      simp only [List.length_append, List.length_cons] at *
      omega
set_option maxHeartbeats 3200000 in
theorem byB_any (f : FuncId) (tx : Nat → List UInt8) (n cnt : Nat) (sep : ByteArray) (w : World) (hF : TdF f tx w) (hn : n < 18446744073709551616) (hc : cnt = 4 ∨ cnt = 6) (hsep : sep.data.toList.length ≤ 1) : Calls Tryz.prog 63 #[.int .u64 ((n : Nat) : Int), .int .i64 ((cnt : Nat) : Int), .string sep, .func (.func f) #[] #[]] w fun e w' => e = .returned (.string ⟨(Lib.join ((prt tx n cnt cnt).map (·.data.toList)) sep.data.toList).toArray⟩) ∧ Below w.heap.size w w' := by
  have hmk := madeS cnt (by omega) w
  have hS0 : PtS w (prt tx n cnt 0) (w.alloc (.cells ((List.replicate cnt (⟨#[]⟩ : ByteArray)).map Value.string).toArray 9)) := ⟨(Below.refl _ _).alloc (Nat.le_refl _) _, by rw [prt_0]; exact heap_alloc_new _ _⟩
  have HS0 := hid hS0
  have HF := hid hF
  have hE := hF.e
  have HE := hid hE
  have hc6 : cnt ≤ 6 := by omega
  have hc1 : 1 ≤ cnt := by omega
  clear hF hc hS0 hE
  generalize w.alloc (.cells ((List.replicate cnt (⟨#[]⟩ : ByteArray)).map Value.string).toArray 9) = W1 at hmk HS0
  go_enter Tryz.func63, Tryz.ntmps63
  go_upto_region 3 with fail
  clear hmk
  go_loopw [15] (fun v wr => ∃ j : Nat, v = .int .i64 ((j : Nat) : Int) ∧ j ≤ cnt ∧ Hid (PtS w (prt tx n cnt j) wr)) (fun v _ => cnt - (RowKit.intOf v).toNat)
  case atStart => exact ⟨0, rfl, by omega, HS0⟩
  case round =>
    clear HS0
    obtain ⟨j, rfl, hj, HS⟩ := hrel
    by_cases hl : j < cnt
    · have gl : decide ((j : Int) < (cnt : Int)) = true := decide_eq_true (by omega)
      have gln : decide (j < cnt) = true := decide_eq_true hl
      obtain ⟨c1, hc1'⟩ : ∃ c1, c1 = cnt - 1 := ⟨_, rfl⟩
      obtain ⟨k, hk⟩ : ∃ k, k = cnt - 1 - j := ⟨_, rfl⟩
      have w1 : IntKind.i64.wrap ((cnt : Int) - 1) = ((c1 : Nat) : Int) := by rw [IntKind.wrap_i64]; omega
      have w2 : IntKind.i64.wrap ((c1 : Int) - (j : Int)) = ((k : Nat) : Int) := by rw [IntKind.wrap_i64]; omega
      have w3 : IntKind.i64.wrap (8 * (k : Int)) = 8 * (k : Int) := by rw [IntKind.wrap_i64]; omega
      have w4 : IntKind.i64.wrap ((j : Int) + 1) = (j : Int) + 1 := by rw [IntKind.wrap_i64]; omega
      have k0 : (0 : Int) ≤ 8 * (k : Int) := by omega
      have k1 : 8 * (k : Int) ≤ 60 := by omega
      have hbits : bits .and .u64 ((n : Int) / 2 ^ (8 * k)) 255 = ((nb n k : Nat) : Int) := by
        have e2 : (n : Int) / 2 ^ (8 * k) = ((n / 2 ^ (8 * k) : Nat) : Int) := by
          rw [show (2 : Int) ^ (8 * k) = ((2 ^ (8 * k) : Nat) : Int) by norm_cast]; norm_cast
        rw [e2]
        exact and255 _ (Nat.lt_of_le_of_lt (Nat.div_le_self _ _) hn)
      have HC := hid (HF.out.c (nb n k) (nb_lt n k) wr HS.out.low)
      have HSet := hid (prt_set tx n cnt j hl)
      rw [← hk] at HSet
      generalize nb n k = b at hbits HC HSet
      have HJ := hid (And.intro hc1' hk)
      clear hc1' hk
      go_upto_region 6 with (first
        | (refine callC f (.tmp 20) [.tmp 28] _ [.int .u64 ((b : Nat) : Int)] [] rfl rfl rfl rfl HE.out _ HC.out ?_
           rintro r w5 ⟨rfl, hw⟩
           have hR5 := (hw.block _ (Array.getElem?_eq_some_iff.1 HS.out.row).1).trans HS.out.row
           have hc5 : ∃ x, w5.cell? ⟨w.heap.size, j, none⟩ = some (.string x) := ⟨_, (cell_of_row _ _ _ _ _ _ hR5).trans (by simp only [List.getElem?_toArray, List.getElem?_map, prt_at _ _ _ _ _ hl]; rfl)⟩
           obtain ⟨x5, hx5⟩ := hc5
           have hf5 : w5.frozen? ⟨w.heap.size, j, none⟩ = false := by simp [World.frozen?, hR5]
           have HW5 := hid (And.intro hw hR5)
           clear hw hR5 HC
           refine Or.inl ⟨_, rfl, ?_⟩))
      have HS6 : Hid (PtS w (prt tx n cnt (j + 1)) (w5.setCell ⟨w.heap.size, j, none⟩ (.string ⟨(tx b).toArray⟩))) := by
        refine ⟨?_, ?_⟩
        · have h1 := HS.out.low.trans (HW5.out.1.mono HS.out.low.size)
          exact h1.trans (Only.below (S := fun k => w.heap.size ≤ k) ((Only.refl _ w5).setCell (p := ⟨w.heap.size, j, none⟩) (Nat.le_refl _) _) fun k hk => hk)
        · rw [heap_setCell_same w5 w.heap.size j _ _ _ HW5.out.2, HSet.out]
      clear HW5 hx5 hf5 HS HSet
      generalize w5.setCell ⟨w.heap.size, j, none⟩ (.string ⟨(tx b).toArray⟩) = w6 at HS6 ⊢
      go_wp2
      go_roundw
      case rel => exact ⟨j + 1, by go_num, hl, HS6⟩
      case measure => simp [RowKit.intOf]; omega
    · obtain rfl : j = cnt := by omega
      have gl : decide ((j : Int) < (j : Int)) = false := by simp
      have hlen := join_len (prt tx n j j) sep.data.toList hsep fun x hx => by
        obtain ⟨i, hi, rfl⟩ := List.mem_iff_getElem.1 hx
        rw [prt_len] at hi
        have := prt_at tx n j j i hi
        rw [List.getElem?_eq_getElem (by rw [prt_len]; exact hi), if_pos hi] at this
        rw [Option.some.inj this]
        exact HF.out.l _ (nb_lt _ _)
      rw [prt_len] at hlen
      have HJn := hid (join_any w.heap.size 0 j (prt tx n j j) sep wr (fun i x hx => HS.out.cell hx) (Array.getElem?_eq_some_iff.1 HS.out.row).1 (by rw [prt_len]; omega) (by rw [prt_len]; omega) (by omega))
      rw [prt_len] at HJn
      clear hlen
      go_wp2_with (go_at_call 25; refine (HJn.out).mono ?_; rintro e w5 ⟨rfl, hw⟩; have HX := hid (HS.out.low.trans (hw.mono HS.out.low.size)); clear hw)
      go_ret
      exact ⟨rfl, HX.out⟩
theorem tdPair (w : World) : TdF 64 two w := ⟨fun b hb W _ => hpair_any b hb W, fun _ _ => rfl, fun b _ => by simp [two]⟩
theorem dd_three {b : Nat} (hb : b < 256) : (decDigits b).length ≤ 3 := by
  by_cases h1 : b < 10
  · rw [decDigits_one h1]; simp
  · by_cases h2 : b < 100
    · rw [decDigits_two h1 h2]; simp
    · rw [dd_big h1]
      by_cases h3 : b / 10 < 10
      · omega
      · rw [decDigits_two h3 (by omega)]; simp
theorem tdDec (w : World) (hT : TabS w) (hz : 9 ≤ w.heap.size) : TdF 65 decDigits w := ⟨fun b hb W h => dec_any b (by omega) W (hT.on h hz), fun _ _ => rfl, fun b hb => dd_three hb⟩
theorem number_txt (f n : Nat) (w : World) (hT : TabS w) (hz : 9 ≤ w.heap.size) (hf : f ≤ 10) (hn : n < 18446744073709551616) : Calls Tryz.prog 40 #[.int .i8 ((f : Nat) : Int), .int .u64 ((n : Nat) : Int)] w fun e w' => e = .returned (.string (nbr f n)) ∧ Below w.heap.size w w' := by
  have HP : Hid (Calls Tryz.prog 63 #[.int .u64 ((n : Nat) : Int), .int .i64 6, .string ⟨#[58]⟩, .func (.func 64) #[] #[]] w fun e w' => e = .returned (.string ⟨(pairs6 (nb n 5) (nb n 4) (nb n 3) (nb n 2) (nb n 1) (nb n 0)).toArray⟩) ∧ Below w.heap.size w w') := byB_any 64 two n 6 ⟨#[58]⟩ w (tdPair w) hn (Or.inr rfl) (Nat.le_refl _)
  have HD : Hid (Calls Tryz.prog 63 #[.int .u64 ((n : Nat) : Int), .int .i64 4, .string ⟨#[46]⟩, .func (.func 65) #[] #[]] w fun e w' => e = .returned (.string ⟨(dots (nb n 3) (nb n 2) (nb n 1) (nb n 0)).toArray⟩) ∧ Below w.heap.size w w') := by
    have h := byB_any 65 decDigits n 4 ⟨#[46]⟩ w (tdDec w hT hz) hn (Or.inl rfl) (Nat.le_refl _)
    have e : Lib.join ((prt decDigits n 4 4).map (·.data.toList)) (⟨#[46]⟩ : ByteArray).data.toList = dots (nb n 3) (nb n 2) (nb n 1) (nb n 0) := by
      unfold Lib.join prt dots
      simp [List.range, List.range.loop, List.intercalate, List.intersperse]
    rw [e] at h
    exact h
  have HU := hid (dec_any n hn w hT)
  clear hT
  obtain ⟨r, hr⟩ : ∃ r, r = nbr f n := ⟨_, rfl⟩
  rw [← hr]
  have HR := hid hr
  clear hr
  have hcs : f = 0 ∨ f = 1 ∨ f = 4 ∨ f = 5 ∨ (f ≠ 0 ∧ f ≠ 1 ∧ f ≠ 4 ∧ f ≠ 5) := by omega
  rcases hcs with rfl | rfl | rfl | rfl | ⟨n0, n1, n4, n5⟩
  · obtain rfl : r = _ := HR.out
    rw [show nbr 0 n = ⟨(pairs6 (nb n 5) (nb n 4) (nb n 3) (nb n 2) (nb n 1) (nb n 0)).toArray⟩ from rfl]
    generalize (⟨(pairs6 (nb n 5) (nb n 4) (nb n 3) (nb n 2) (nb n 1) (nb n 0)).toArray⟩ : ByteArray) = q at HP ⊢
    clear HR HD HU
    go_enter Tryz.func40, Tryz.ntmps40
    go_wp2_with (go_at_call 63; refine (HP.out).mono ?_; rintro e w5 ⟨rfl, hw⟩)
    go_ret
    exact ⟨rfl, hw⟩
  · obtain rfl : r = _ := HR.out
    rw [show nbr 1 n = ⟨(pairs6 (nb n 5) (nb n 4) (nb n 3) (nb n 2) (nb n 1) (nb n 0)).toArray⟩ from rfl]
    generalize (⟨(pairs6 (nb n 5) (nb n 4) (nb n 3) (nb n 2) (nb n 1) (nb n 0)).toArray⟩ : ByteArray) = q at HP ⊢
    clear HR HD HU
    go_enter Tryz.func40, Tryz.ntmps40
    go_wp2_with (go_at_call 63; refine (HP.out).mono ?_; rintro e w5 ⟨rfl, hw⟩)
    go_ret
    exact ⟨rfl, hw⟩
  · obtain rfl : r = _ := HR.out
    rw [show nbr 4 n = ⟨(dots (nb n 3) (nb n 2) (nb n 1) (nb n 0)).toArray⟩ from rfl]
    generalize (⟨(dots (nb n 3) (nb n 2) (nb n 1) (nb n 0)).toArray⟩ : ByteArray) = q at HD ⊢
    clear HR HP HU
    go_enter Tryz.func40, Tryz.ntmps40
    go_wp2_with (go_at_call 63; refine (HD.out).mono ?_; rintro e w5 ⟨rfl, hw⟩)
    go_ret
    exact ⟨rfl, hw⟩
  · obtain rfl : r = _ := HR.out
    rw [show nbr 5 n = ⟨(dots (nb n 3) (nb n 2) (nb n 1) (nb n 0)).toArray⟩ from rfl]
    generalize (⟨(dots (nb n 3) (nb n 2) (nb n 1) (nb n 0)).toArray⟩ : ByteArray) = q at HD ⊢
    clear HR HP HU
    go_enter Tryz.func40, Tryz.ntmps40
    go_wp2_with (go_at_call 63; refine (HD.out).mono ?_; rintro e w5 ⟨rfl, hw⟩)
    go_ret
    exact ⟨rfl, hw⟩
  · have e0 : (((f : Nat) : Int) == 0) = false := beq_eq_false_iff_ne.2 (by omega)
    have e1 : (((f : Nat) : Int) == 1) = false := beq_eq_false_iff_ne.2 (by omega)
    have e4 : (((f : Nat) : Int) == 4) = false := beq_eq_false_iff_ne.2 (by omega)
    have e5 : (((f : Nat) : Int) == 5) = false := beq_eq_false_iff_ne.2 (by omega)
    obtain rfl : r = ⟨(decDigits n).toArray⟩ := by rw [HR.out]; unfold nbr; rw [if_neg (by omega), if_neg (by omega)]
    generalize (⟨(decDigits n).toArray⟩ : ByteArray) = q at HU ⊢
    clear HR HP HD n0 n1 n4 n5
    go_enter Tryz.func40, Tryz.ntmps40
    go_wp2_with (go_at_call 65; refine (HU.out).mono ?_; rintro e w5 ⟨rfl, hw⟩)
    go_ret
    exact ⟨rfl, hw⟩
end Go.Proofs.YtoncogkamlgjhaaGreatDoor
