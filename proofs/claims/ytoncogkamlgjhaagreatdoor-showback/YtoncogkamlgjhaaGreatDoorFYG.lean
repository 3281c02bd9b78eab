/-
  Proved here: strings.Join, strconv.FormatUint at base 10; decimal, pair of package show. Conditions: the table of powers of ten.
-/
/-
  Proved here: pair, byBytes, number of package show. Conditions: the tables.
-/
import Derived.Test.YtoncogkamlgjhaaGreatDoorFOS
import Derived.Test.YtoncogkamlgjhaaGreatDoorFSLN
import Derived.Test.YtoncogkamlgjhaaGreatDoorFSLJ
import Derived.Lib.ItoaMem
import Derived.Lib.AppendIntMem
import Derived.Laws.IdiomStrings
import Derived.Laws.MakeOwn
namespace Go.Proofs.YtoncogkamlgjhaaGreatDoor
set_option maxRecDepth 100000
open Go.RowKit Go.Sort Go.Lib
set_option maxRecDepth 100000

theorem extJ : Builder.Extra Tryz.prog Tryz.layJN_ren := {
  sizeBuilder := by kernel_rfl
  liesBuilder := by kernel_rfl
  t5 := by kernel_rfl
  a5 := Tryz.isAgg5
  z5 := Tryz.sizeOf5
  v5 := Tryz.zeroValue5
  infoByte := by kernel_rfl
  cellsByte := by kernel_rfl
  sizeByte := by kernel_rfl
  neB5 := by decide }
theorem join_any (bk o c : Nat) (xs : List ByteArray) (sep : ByteArray) (w : World)
    (hcells : ∀ (j : Nat) x, xs[j]? = some x → w.cell? ⟨bk, o + j, none⟩ = some (.string x))
    (hbk : bk < w.heap.size) (hN : xs.length ≤ 140737488355328) (hcap : xs.length ≤ c)
    (hlen : (Lib.join (xs.map (·.data.toList)) sep.data.toList).length ≤ 140737488355328) :
    Calls Tryz.prog 25 #[.slice (some ⟨bk, o, none⟩) xs.length c, .string sep] w fun e w' => e = .returned (.string ⟨(Lib.join (xs.map (·.data.toList)) sep.data.toList).toArray⟩) ∧ Below w.heap.size w w' :=
  Any.strings_Join Tryz.layJN extJ bk o c xs sep w hcells hbk hN hcap hlen
theorem below_grow {w : World} {k : Nat} {os : Array Obj} : Below w.heap.size w (grow (w.drewN k) os) := by
  refine ⟨rfl, rfl, rfl, ?_, fun j hj => ?_⟩
  · simp [grow, World.drewN]
  · simp [grow, World.drewN, Array.getElem?_append_left hj]
set_option maxHeartbeats 6400000 in
theorem fmtU (u : Nat) (hu64 : u < 18446744073709551616) (w : World) (hT : TabS w) : Calls Tryz.prog 92 #[.int .u64 ((u : Nat) : Int), .int .i64 10] w fun e w' => e = .returned (.string ⟨(Lib.decDigits u).toArray⟩) ∧ Below w.heap.size w w' := by
  have htab := hT.pw
  clear hT
  by_cases hs : u < 100
  · have g1 : decide (((u : Nat) : Int) < 100) = true := decide_eq_true (by omega)
    have HS := Go.Proofs.YtoncogkamlgjhaaGreatDoor.hid (Any.internal_strconv_small Tryz.lay283 u hs w)
    have hw : IntKind.i64.wrap ((u : Nat) : Int) = (u : Int) := by rw [IntKind.wrap_i64]; omega
    go_enter Tryz.func92, Tryz.ntmps92
    go_wp2_with (go_at_call 99; refine (HS.out).mono ?_; rintro e w' ⟨rfl, rfl⟩)
    go_ret
    exact ⟨rfl, Below.refl _ _⟩
  · have g1 : decide (((u : Nat) : Int) < 100) = false := decide_eq_false (by omega)
    have hu1 : 1 ≤ u := by omega
    have hnd20 : Lib.nDigits u ≤ 20 := by have := Lib.numDigits_eq u hu1 hu64; split at this <;> omega
    have hb3 : Lib.nDigits u ≤ 24 := by omega
    have hal : Tryz.prog.arrayLen 129 = 24 := by kernel_rfl
    have hsl1 : ∀ W, (Instr.sliceAt 129 (.pointer (some ⟨w.heap.size, 0, none⟩)) none (some (.int .i64 ((Lib.nDigits u : Nat) : Int))) none).run Tryz.prog W = .ok (.slice (some ⟨w.heap.size, 0, none⟩) (Lib.nDigits u) 24) W := fun W => by
      rw [run_sliceAt_array_h W 129 ⟨w.heap.size, 0, none⟩ (by kernel_rfl) .i64 ((Lib.nDigits u : Nat) : Int) (by omega) (by rw [hal]; omega)]
      go_simp
    have hH0 := Lib.holds_zero0 w 129 (Lib.nDigits u) (by omega)
    have hfmt := Any.internal_strconv_formatBase10 Tryz.lay285 w.heap.size 0 24 u (Array.replicate (Lib.nDigits u) 0) (w.alloc (.cells Lib.zeros24 129)) hH0 (by rw [Array.size_replicate]; exact Lib.lt_pow_nDigits u) hu64 (by rw [Array.size_replicate]; omega)
    rw [Array.size_replicate] at hfmt
    have HH0 := Lib.hid hH0
    have HND := Lib.hid (Any.internal_strconv_numDigits Tryz.lay284 u hu1 hu64 (w.alloc (.cells Lib.zeros24 129)) (Lib.tabIs_alloc htab _))
    have HF := Lib.hid hfmt
    clear hH0 hal hfmt
    go_enter Tryz.func92, Tryz.ntmps92
    go_upto_region 7 with (first
      | (go_at_call 100; refine (HND.out).mono ?_; rintro e w' ⟨rfl, hw⟩; rw [hw]; clear hw w')
      | (go_at_call 101; refine (HF.out).mono ?_; rintro e w' ⟨rfl, k, v', dk, hw, hF⟩; have HX := Lib.hid (And.intro hw hF); clear hw hF))
    have hw := HX.out.1
    have hF := HX.out.2
    have hcv : (convert 87 9 (.slice (some ⟨w.heap.size, 0, none⟩) (Lib.nDigits u) 24)).run Tryz.prog w' = .ok (.string ⟨(Lib.decDigits u).toArray⟩) w' := by
      have h := run_convert_bytes_back (P := Tryz.prog) w' 87 9 5 ⟨w.heap.size, 0, none⟩ 24 (Lib.decDigits u) Tryz.underlying87 Tryz.underlying5 Tryz.underlying9 (fun j hj => by
        rw [Lib.row_is_numeral hF j hj, Lib.add_plain, hw, World.cell?_drewN]
        exact cell?_putRow (fun (b : UInt8) => Value.int .u8 (b.toNat : Int)) _ w.heap.size 0 _ dk HH0.out (by rw [hF.size, Array.size_replicate]) j (by rw [hF.size]; rw [Lib.decDigits_length] at hj; exact hj))
      rw [Lib.decDigits_length] at h
      exact h
    have HB : Hid (Below w.heap.size w w') := by
      show Below _ _ _
      rw [hw, alloc_eq_grow]
      obtain ⟨os', _, e⟩ := putRow_grow_new (fun (b : UInt8) => Value.int .u8 (b.toNat : Int)) w #[.cells Lib.zeros24 129] w.heap.size 0 dk (Nat.le_refl _)
      rw [e]
      exact below_grow
    clear hw hF HX
    go_wp2
    go_ret
    exact ⟨rfl, HB.out⟩
theorem dec_any (u : Nat) (hu64 : u < 18446744073709551616) (w : World) (hT : TabS w) : Calls Tryz.prog 65 #[.int .u64 ((u : Nat) : Int)] w fun e w' => e = .returned (.string ⟨(Lib.decDigits u).toArray⟩) ∧ Below w.heap.size w w' := by
  have HF := Go.Proofs.YtoncogkamlgjhaaGreatDoor.hid (fmtU u hu64 w hT)
  clear hT
  have HG : Hid (Calls Tryz.prog 85 #[.int .u64 ((u : Nat) : Int), .int .i64 10] w fun e w' => e = .returned (.string ⟨(Lib.decDigits u).toArray⟩) ∧ Below w.heap.size w w') := by
    show Calls _ _ _ _ _
    go_enter Tryz.func85, Tryz.ntmps85
    go_wp2_with (go_at_call 92; refine (HF.out).mono ?_; rintro e w' ⟨rfl, hb⟩)
    go_ret
    exact ⟨rfl, hb⟩
  clear HF
  go_enter Tryz.func65, Tryz.ntmps65
  go_wp2_with (go_at_call 85; refine (HG.out).mono ?_; rintro e w' ⟨rfl, hb⟩)
  go_ret
  exact ⟨rfl, hb⟩
end Go.Proofs.YtoncogkamlgjhaaGreatDoor
namespace Go.Proofs.YtoncogkamlgjhaaGreatDoor
set_option maxRecDepth 100000
open Go.RowKit Go.Lib
set_option maxRecDepth 100000

abbrev hxs : ByteArray := ⟨#[48, 49, 50, 51, 52, 53, 54, 55, 56, 57, 97, 98, 99, 100, 101, 102]⟩
theorem hx_at : ∀ d : Fin 16, bt hxs d.val = (hc d.val).toNat := by decide
theorem run_hx (d : Nat) (h : d < 16) (W : World) : (Instr.index 9 (.string hxs) (.int .u64 ((d : Nat) : Int))).run Tryz.prog W = .ok (.int .u8 (((hc d).toNat : Nat) : Int)) W := by
  have hs : d < hxs.size := h
  rw [run_index_string W 9 hxs .u64 d Tryz.underlying9, dif_pos (by show 0 ≤ (d : Int) ∧ (d : Int) < ((16 : Nat) : Int); omega)]
  have := hx_at ⟨d, h⟩
  rw [bt_in hs] at this
  rw [← this]
  rfl
theorem conv_two (w : World) (x y : UInt8) : (convert 87 9 (.slice (some ⟨w.heap.size, 0, none⟩) 2 2)).run Tryz.prog (w.alloc (.cells #[.int .u8 ((x.toNat : Nat) : Int), .int .u8 ((y.toNat : Nat) : Int)] 5)).drew = .ok (.string ⟨#[x, y]⟩) (w.alloc (.cells #[.int .u8 ((x.toNat : Nat) : Int), .int .u8 ((y.toNat : Nat) : Int)] 5)).drew := by
  refine run_convert_bytes_back (w.alloc (.cells #[.int .u8 ((x.toNat : Nat) : Int), .int .u8 ((y.toNat : Nat) : Int)] 5)).drew 87 9 5 ⟨w.heap.size, 0, none⟩ 2 [x, y] Tryz.underlying87 Tryz.underlying5 Tryz.underlying9 fun j hj => ?_
  rw [Addr.add_lit]
  show (w.alloc (.cells #[.int .u8 ((x.toNat : Nat) : Int), .int .u8 ((y.toNat : Nat) : Int)] 5)).cell? _ = _
  rw [cell_of_row _ _ _ _ _ _ (heap_alloc_new w _), Nat.zero_add]
  have : j = 0 ∨ j = 1 := by simp at hj; omega
  rcases this with rfl | rfl <;> rfl
theorem and15 (x : Nat) (hx : x < 18446744073709551616) : bits .and .u64 (x : Int) 15 = ((x % 16 : Nat) : Int) := by
  have := u64_and_nat x 15 hx (by decide)
  rw [nat_mask4] at this
  exact this
theorem and255 (x : Nat) (hx : x < 18446744073709551616) : bits .and .u64 (x : Int) 255 = ((x % 256 : Nat) : Int) := by
  have := u64_and_nat x 255 hx (by decide)
  rw [nat_mask8] at this
  exact this
set_option maxHeartbeats 1600000 in
theorem hpair_any (b : Nat) (hb : b < 256) (w : World) : Calls Tryz.prog 64 #[.int .u64 ((b : Nat) : Int)] w fun e w' => e = .returned (.string ⟨(two b).toArray⟩) ∧ Below w.heap.size w w' := by
  have s1 : ((b : Int) / 16) = ((b / 16 : Nat) : Int) := by omega
  have s2 := and15 b (by omega)
  have h1 := fun W => run_hx (b / 16) (by omega) W
  have h2 := fun W => run_hx (b % 16) (by omega) W
  have h3 := conv_two w (hc (b / 16)) (hc (b % 16))
  have HB : Hid (Below w.heap.size w (w.alloc (.cells #[.int .u8 (((hc (b / 16)).toNat : Nat) : Int), .int .u8 (((hc (b % 16)).toNat : Nat) : Int)] 5)).drew) := by
    have h := (Below.refl w.heap.size w).alloc (Nat.le_refl _) (.cells #[.int .u8 (((hc (b / 16)).toNat : Nat) : Int), .int .u8 (((hc (b % 16)).toNat : Nat) : Int)] 5)
    exact ⟨h.os, h.tape, h.output, h.size, h.block⟩
  rw [show (⟨(two b).toArray⟩ : ByteArray) = ⟨#[hc (b / 16), hc (b % 16)]⟩ from rfl]
  generalize hc (b / 16) = x at h1 h3 HB ⊢
  generalize hc (b % 16) = y at h2 h3 HB ⊢
  generalize b / 16 = d1 at s1 h1
  generalize b % 16 = d2 at s2 h2
  go_enter Tryz.func64, Tryz.ntmps64
  go_wp2
  go_region
  go_wp2
  go_ret
  exact ⟨rfl, HB.out⟩
/-- what a function of a byte tells -/
structure TdF (f : FuncId) (tx : Nat → List UInt8) (w : World) : Prop where
  c : ∀ b, b < 256 → ∀ W, Below w.heap.size w W → Calls Tryz.prog f #[.int .u64 ((b : Nat) : Int)] W fun e w' => e = .returned (.string ⟨(tx b).toArray⟩) ∧ Below W.heap.size W w'
  e : ∀ (args : Array Value) (w : World), (callFunc f args).run Tryz.prog w = .ok (.enter f args) w
  l : ∀ b, b < 256 → (tx b).length ≤ 3
/-- the parts, so far -/
def prt (tx : Nat → List UInt8) (n cnt j : Nat) : List ByteArray := (List.range cnt).map fun i => if i < j then ⟨(tx (nb n (cnt - 1 - i))).toArray⟩ else ⟨#[]⟩
theorem prt_at (tx : Nat → List UInt8) (n cnt j i : Nat) (h : i < cnt) : (prt tx n cnt j)[i]? = some (if i < j then ⟨(tx (nb n (cnt - 1 - i))).toArray⟩ else ⟨#[]⟩) := by
  unfold prt; rw [List.getElem?_map, List.getElem?_range h]; rfl
structure PtS (w : World) (xs : List ByteArray) (wr : World) : Prop where
  low : Below w.heap.size w wr
  row : wr.heap[w.heap.size]? = some (.cells (xs.map Value.string).toArray 9 (0, 0))
end Go.Proofs.YtoncogkamlgjhaaGreatDoor
