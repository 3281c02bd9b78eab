/-
  Laid here at this program's own numbers: the structures of the library's contracts for generic functions. Conditions: those of the contracts.
-/
/-
  Proved here: slices.Sort leaves the numbers sorted. Conditions: the numbers lie as they say.
-/
/-
  Proved here: slices.Sort of no slice at all does nothing. No condition.
-/
/-
  Proved here: maps.Keys over the map of what is gone, slices.AppendSeq and slices.Collect of it: a new slice of the map's keys, each once, in some order. Condition: fewer than 2 to 31 entries.
-/
import Derived.Shelf.SortG.So_math_bits_LenIn
import Derived.Test.YtdehlnaoehjehaaGreatDoorProg
import Derived.Test.YtdehlnaoehjehaaGreatDoorzS9
import Derived.Sort.AssemblyPlain
import Derived.Sort.WalkA14
import Derived.Test.YtdehlnaoehjehaaGreatDoorzI0
import Derived.RangeFuncNested
import Derived.RangeFuncBound
import Derived.RangeFuncCalls
import Derived.RangeFuncLeaves
import Derived.RangeFuncBox
import Derived.Shelf.Abstract
import Derived.Shelf.AbstractIn
import Derived.Shelf.RegionOpen
import Derived.Sort.MapsRangeIn
import Derived.WalkKit
import Derived.OwnWalkIn
import Derived.TacticsInMore
import Derived.RegionIn
import Derived.LoopNIn
import Derived.LoopIn
import Derived.Maps.AppendAt
namespace Go.Proofs
open Go.Shelf
def Tryz.layLN_ren : Go.Shelf.Ren := ⟨fun | 64 => 132 | 78 => 168 | 79 => 169 | n => n, fun | 51 => 235 | 3 => 3 | 67 => 144 | 69 => 28 | 4 => 4 | 5 => 5 | 9 => 9 | n => n, fun | n => n⟩
theorem Tryz.layLN : Go.Proofs.SlLaysN.n64 Tryz.prog Tryz.layLN_ren := {
  mixed := by kernel_rfl
  f64 := Tryz.func132.trans (congrArg some (by kernel_rfl))
  f78 := Tryz.func168.trans (congrArg some (by kernel_rfl))
  f79 := Tryz.func169.trans (congrArg some (by kernel_rfl))
  t3 := Tryz.underlying3
  a3 := Tryz.isAgg3
  z3 := Tryz.sizeOf3
  v3 := Tryz.zeroValue3
  t4 := Tryz.underlying4
  a4 := Tryz.isAgg4
  z4 := Tryz.sizeOf4
  v4 := Tryz.zeroValue4
  t5 := Tryz.underlying5
  a5 := Tryz.isAgg5
  z5 := Tryz.sizeOf5
  v5 := Tryz.zeroValue5
  t9 := Tryz.underlying9
  a9 := Tryz.isAgg9
  z9 := Tryz.sizeOf9
  v9 := Tryz.zeroValue9
  t51 := Tryz.underlying235
  a51 := Tryz.isAgg235
  z51 := Tryz.sizeOf235
  v51 := Tryz.zeroValue235
  t67 := Tryz.underlying144
  a67 := Tryz.isAgg144
  z67 := Tryz.sizeOf144
  v67 := Tryz.zeroValue144
  t69 := Tryz.underlying28
  a69 := Tryz.isAgg28
  z69 := Tryz.sizeOf28
  v69 := Tryz.zeroValue28 }
end Go.Proofs
namespace Go.Proofs.YtdehlnaoehjehaaGreatDoor
open Go.RowKit Go.Sort

theorem bLen_any (n : Nat) (hn : n < 4611686018427387904) (w : World) : Calls Tryz.prog 132 #[.int .u64 n] w fun e w' => e = .returned (.int .i64 (bitsLen n : Nat)) ∧ w' = w := calls_of_every_depth fun D => by
  have h := AnySG.bits_LenIn Tryz.layLN D (n : Int) w (by omega) (by omega)
  rwa [Int.toNat_natCast, bitLen_eq _ (by omega)] at h
set_option maxHeartbeats 12800000 in
set_option maxRecDepth 100000 in
theorem sort_any (g o cap t N : Nat) (hs : N < 4611686018427387904) (w : World) (d : Array Int) (hN : d.size = N) (h : Dt w g o cap t d) :
    Calls Tryz.prog 95 #[.slice (some ⟨g, o, none⟩) N cap] w fun e w' => e = .returned (.tuple #[]) ∧ Sn w g o cap t (sort ltInt d) w' := by
  have hk : bitsLen N ≤ 62 := (bitsLen_le_iff N 62).2 (by omega)
  have HE : Hid (sort ltInt d = pdq ltInt d 0 N (bitsLen N) true true) := hid (by rw [← hN]; rfl)
  have HD := hid (Sn.refl h)
  have HZ := hid hN
  have HL := hid (fun w => bLen_any N hs w)
  obtain ⟨L, hL⟩ : ∃ L, L = bitsLen N := ⟨_, rfl⟩
  rw [← hL] at hk HE HL
  have HP : Hid (∀ k, Calls Tryz.prog 131 #[.slice (some ⟨g, o, none⟩) N cap, .int .i64 (0 : Int), .int .i64 N, .int .i64 L] (w.drewN k) fun e w' => e = .returned (.tuple #[]) ∧ Sn (w.drewN k) g o cap t (pdq ltInt d 0 N L true true) w') :=
    hid fun k => pdq_any g o cap t N hs (N + 1) (w.drewN k) d 0 N L (by omega) hN ((HD.out.drewN k).dt) (by omega) (by omega) (by omega) (Or.inl rfl)
  clear h hN hL
  go_enter Tryz.func95, Tryz.ntmps95
  go_wp2_with (first
    | (go_at_call 132; refine (HL.out _).mono ?_; rintro e z ⟨rfl, rfl⟩)
    | (go_at_call 131; (first | refine (HP.out 0).mono ?_ | refine (HP.out 1).mono ?_ | refine (HP.out _).mono ?_); rintro e z ⟨rfl, h1⟩))
  first | go_end0 | refine bodyPost_ret (results_none rfl _ _ _) rfl ?_
  exact ⟨rfl, by rw [HE.out]; exact (HD.out.drewN _).trans h1⟩
end Go.Proofs.YtdehlnaoehjehaaGreatDoor
namespace Go.Proofs.YtdehlnaoehjehaaGreatDoor
open Go.RowKit Go.Sort

set_option maxHeartbeats 3200000 in
set_option maxRecDepth 100000 in
theorem ins_nil (w : World) : Calls Tryz.prog 159 #[.slice none 0 0, .int .i64 0, .int .i64 0] w fun e w' => e = .returned (.tuple #[]) ∧ Only (fun k => w.heap.size ≤ k) w w' := by
  go_enter Tryz.func159, Tryz.ntmps159
  go_upto_region 1 with fail
  go_loopw [6] (fun i wr => i = .int .i64 1 ∧ Only (fun k => w.heap.size ≤ k) w wr) (fun _ _ => 0)
  case atStart => exact ⟨rfl, Only.refl _ _⟩
  case round =>
    obtain ⟨rfl, hO⟩ := hrel
    generalize wr = wx at *
    have HO := hid hO
    clear hO
    go_wp2
    first | go_end0 | refine bodyPost_ret (results_none rfl _ _ _) rfl ?_
    exact ⟨rfl, HO.out⟩
set_option maxHeartbeats 3200000 in
set_option maxRecDepth 100000 in
theorem pdq_nil (w : World) (l : Int) : Calls Tryz.prog 131 #[.slice none 0 0, .int .i64 0, .int .i64 0, .int .i64 l] w fun e w' => e = .returned (.tuple #[]) ∧ Only (fun k => w.heap.size ≤ k) w w' := by
  have HC := hid ins_nil
  go_enter Tryz.func131, Tryz.ntmps131
  go_upto_region 2 with fail
  go_loopw [1, 2, 3, 8, 9] (fun x1 x2 _ _ _ wr => x1 = .int .i64 0 ∧ x2 = .int .i64 0 ∧ Only (fun k => w.heap.size ≤ k) w wr) (fun _ _ _ _ _ _ => 0)
  case atStart => exact ⟨rfl, rfl, Only.refl _ _⟩
  case round =>
    obtain ⟨rfl, rfl, hO⟩ := hrel
    generalize wr = wx at *
    have HO := hid hO
    clear hO
    go_wp2_with (go_at_call 159; refine (HC.out _).mono ?_; rintro e z ⟨rfl, h1⟩; have H1 := hid (HO.out.trans (h1.mono fun k hk => Nat.le_trans HO.out.size hk)); clear h1)
    first | go_end0 | refine bodyPost_ret (results_none rfl _ _ _) rfl ?_
    exact ⟨rfl, H1.out⟩
set_option maxHeartbeats 3200000 in
set_option maxRecDepth 100000 in
theorem sort_nil (w : World) : Calls Tryz.prog 95 #[.slice none 0 0] w fun e w' => e = .returned (.tuple #[]) ∧ Only (fun k => w.heap.size ≤ k) w w' := by
  have HL : Hid (∀ w, Calls Tryz.prog 132 #[.int .u64 0] w fun e w' => e = .returned (.int .i64 0) ∧ w' = w) := hid fun w => bLen_any 0 (by omega) w
  have HP := hid pdq_nil
  go_enter Tryz.func95, Tryz.ntmps95
  go_wp2_with (first
    | (go_at_call 132; refine (HL.out _).mono ?_; rintro e z ⟨rfl, rfl⟩)
    | (go_at_call 131; refine (HP.out _ _).mono ?_; rintro e z ⟨rfl, h1⟩; have H1 := hid h1; clear h1))
  first | go_end0 | refine bodyPost_ret (results_none rfl _ _ _) rfl ?_
  exact ⟨rfl, H1.out⟩
end Go.Proofs.YtdehlnaoehjehaaGreatDoor
namespace Go.Proofs.YtdehlnaoehjehaaGreatDoor
set_option maxRecDepth 100000
open Go.RowKit Go.Maps Go.Shelf

attribute [local go_sem] Oper.semAt_some

theorem lawGU : Keyed Tryz.prog 28 := int_keyed Tryz.underlying28
/-- A number that is 64 bits wide. -/
abbrev uv (z : Int) : Value := .int .u64 z
/-- What has come of a map: keys. -/
structure ColK (D : DataW Value) (left : Lit → Bool) (zs : List Int) : Prop where
  nd : zs.Nodup
  mem : ∀ z, z ∈ zs ↔ Maps.has D (.int .u64 z) = true ∧ left (.int .u64 z) = false
  sub : ∀ l, left l = true → Maps.has D l = true
/-- All has come. -/
def KeyS (D : DataW Value) (zs : List Int) : Prop := zs.Nodup ∧ ∀ z, z ∈ zs ↔ Maps.has D (.int .u64 z) = true
theorem ColK.start (D : DataW Value) : ColK D (Maps.has D) [] := ⟨List.nodup_nil, fun z => by cases Maps.has D (.int .u64 z) <;> simp, fun _ h => h⟩
theorem ColK.step {D : DataW Value} {left : Lit → Bool} {zs : List Int} (h : ColK D left zs) {z : Int} (hk : left (.int .u64 z) = true) (hs : (Lit.int .u64 z).sameKey (.int .u64 z) = true) : ColK D (fun y => left y && !y.sameKey (.int .u64 z)) (zs ++ [z]) := by
  have hn : z ∉ zs := fun e => by have := ((h.mem z).1 e).2; rw [hk] at this; cases this
  refine ⟨?_, fun y => ?_, fun l hl => h.sub l (by simp at hl; exact hl.1)⟩
  · rw [List.nodup_append]
    refine ⟨h.nd, by simp, fun a ha b hb e => ?_⟩
    simp at hb
    subst hb e
    exact hn ha
  · rw [List.mem_append, h.mem y]
    simp only [List.mem_cons, List.not_mem_nil, or_false]
    constructor
    · rintro (⟨h1, h2⟩ | rfl)
      · exact ⟨h1, by rw [h2]; rfl⟩
      · exact ⟨h.sub _ hk, by rw [hs]; simp⟩
    · rintro ⟨h1, h2⟩
      cases hl : left (.int .u64 y) with
      | false => exact Or.inl ⟨h1, rfl⟩
      | true =>
        rw [hl] at h2
        simp only [Bool.true_and, Bool.not_eq_false'] at h2
        have := WideAt.sameKey_eq h2
        injection this with _ e
        exact Or.inr e
theorem ColK.done {D : DataW Value} {left : Lit → Bool} {zs : List Int} (h : ColK D left zs) (h0 : ∀ l, left l = false) : KeyS D zs := ⟨h.nd, fun z => by rw [h.mem z, h0]; simp⟩

set_option maxRecDepth 100000 in
set_option maxHeartbeats 1000000 in
theorem key1_in (F : Fence) (n : Nat) (hf : F.fn 96) (hro : F.round = none) (hn : 1 ≤ n) (l Bm b nn : Nat) (D0 : DataW Value) (hD : ∀ l, Maps.has D0 l = true → ∃ z : Int, (Lit.int .u64 z).wf = true ∧ l = .int .u64 z) (J Jx : List Int → World → Prop)
    (hY : ∀ pre x W, J pre W → pre.length < Maps.size D0 → YieldAt F (n - 1) Tryz.prog l #[uv x] W fun e W' => (e = .returned (.bool true) ∧ J (pre ++ [x]) W' ∧ KeepsWalks W W') ∨ (e = .returned (.bool false) ∧ Jx (pre ++ [x]) W'))
    (W : World) (hJ : AbidesFrom W.heap.size J) (hm : W.cell? ⟨Bm, 0, none⟩ = some (.map (some b))) (hown : W.ownsMap Tryz.prog 28 tok b nn D0) (h0 : J [] W) :
    CallsIn F n Tryz.prog 96 #[.func (.yield l) #[] #[], .pointer (some ⟨Bm, 0, none⟩)] W fun e W' => (∃ v, e = .returned v) ∧ ((∃ xs, KeyS D0 xs ∧ J xs W') ∨ ∃ pre, True ∧ Jx pre W') := by
  refine callsIn_of_wp Tryz.func96 rfl hf ?_ hro
  simp only [Tryz.ntmps96, List.size_toArray, List.length_cons, List.length_nil, Nat.reduceAdd, Nat.reduceSub, Array.replicate_succ, Array.replicate_zero, List.push_toArray, List.append_toArray, List.nil_append, List.cons_append]
  gi_wp2_with (first
    | (gi_at_range; refine wpListIn_range_own _ rfl _ 91 rfl 28 127 lawGU Tryz.underlying91 _ b nn _ rfl hown ?_; intro w0 hrg0 hg0 hs0)
    | gi_in)
  go_frame
  gi_loopw [3] (fun _ wr => ∃ (left : Lit → Bool) (cnt : Nat) (ps : List Int), wr.ranges Tryz.prog 28 tok b W.heap.size nn D0 left cnt ∧ ps.length + cnt ≤ Maps.size D0 ∧ ColK D0 left ps ∧ J ps wr)
    (fun _ wr => wr.rangeLeft b W.heap.size)
  case atStart => exact ⟨_, _, [], hrg0, by simp, ColK.start D0, hJ [] W w0 none h0 hg0 (fun r e => by cases e)⟩
  case round =>
    obtain ⟨left, cnt, ps, hrg, hcs, hC, hJs⟩ := hrel
    gi_wp2_with (first
      | (gi_at_next; refine wpListIn_next_ranges _ rfl _ rfl 28 lawGU tok (fun x : Value => x) (fun x : Value => x) (fun key _ _ => ⟨key, rfl⟩) (fun v _ _ => ⟨v, rfl⟩) b W.heap.size nn _ _ _ rfl hrg ?_ ?_)
      | gi_in)
    · intro hc0 hl0
      gi_wp2
      go_end0
      exact ⟨⟨_, rfl⟩, .inl ⟨_, hC.done hl0, hJs⟩⟩
    · intro x c kl yd yp w2 cnt2 hkey hlk hv hat hrg2 hlt hg2 hs2 hen
      obtain ⟨z, hwz, rfl⟩ := hD kl (hC.sub kl hlk)
      obtain rfl : x = uv z := lawGU.inj hkey (keyOf_int_mk Tryz.underlying28 hwz)
      have hself : (Lit.int .u64 z).sameKey (.int .u64 z) = true := WideAt.sameKey_self (lawGU.key hkey)
      have hJ2 : J ps w2 := hJ _ wr w2 (some W.heap.size) hJs hg2 (fun r e => by cases e; exact ⟨Nat.le_refl _, hrg.iter_walk⟩)
      obtain ⟨fn, tmps, assign, body, hy, hR⟩ := hY ps z w2 hJ2 (by omega)
      have hC2 := hC.step hlk hself
      clear hs2
      gi_wp2
      refine hR.mono ?_
      rintro e W3 (⟨rfl, hJ3, hk3⟩ | ⟨rfl, hJx3⟩)
      · gi_wp2
        have hrg3 := hrg2.of_walks hk3
        go_roundw
        case rel => exact ⟨_, cnt2, ps ++ [z], hrg3, by simp; omega, hC2, by simpa using hJ3⟩
        case measure => rw [hrg3.left_eq, hrg.left_eq]; exact hlt
      · gi_wp2
        refine bodyPost_ret (results_none rfl _ _ _) rfl ?_
        exact ⟨⟨_, rfl⟩, .inr ⟨_, trivial, hJx3⟩⟩
theorem key_stops (F : Fence) (n : Nat) (hf : F.fn 96) (hro : F.round = none) (hn : 1 ≤ n) (Bm b nn : Nat) (D0 : DataW Value) (hD : ∀ l, Maps.has D0 l = true → ∃ z : Int, (Lit.int .u64 z).wf = true ∧ l = .int .u64 z) (w : World) (hBm : Bm < w.heap.size) (hm : w.cell? ⟨Bm, 0, none⟩ = some (.map (some b))) (hown : w.ownsMap Tryz.prog 28 tok b nn D0) :
    SeqStopsK F n Tryz.prog 96 #[.pointer (some ⟨Bm, 0, none⟩)] (fun x : Int => #[uv x]) KeepsWalks (KeyS D0) (fun _ => True) (Maps.size D0) w := fun l J Jx W hW hJ _ hY h0 => by
  have hown' : W.ownsMap Tryz.prog 28 tok b nn D0 := by
    have hbl := hown.lt
    obtain ⟨es, clock, hb, Ft, hs, hD⟩ := hown
    exact ⟨es, clock, (hW.block b hbl).trans hb, Ft, hs, hD⟩
  exact key1_in F n hf hro hn l Bm b nn D0 hD J Jx hY W hJ ((hW.cell (p := ⟨Bm, 0, none⟩) hBm).trans hm) hown' h0
theorem infoGU : (Tryz.prog.info? 28).map (fun i => (i.zero, i.size, i.bytes)) = some (some (.int .u64 0), 1, 8) := by kernel_rfl
/-- What is collected. -/
def ColU (w : World) (D0 : DataW Value) (e : Ending) (W' : World) : Prop := ∃ v xs, e = .returned v ∧ KeyS D0 xs ∧ W'.ownsRow w.heap.size 28 1 v xs.length (xs.map uv) ∧ (v = .slice none 0 0 ↔ xs = []) ∧ Below w.heap.size w W'
set_option maxRecDepth 100000 in
set_option maxHeartbeats 2000000 in
theorem appsequ_in (F : Fence) (n : Nat) (h3 : F.fn 130) (h5 : F.fn 96) (hro : F.round = none) (hn : 3 ≤ n) (Bm b nn : Nat) (D0 : DataW Value) (hD : ∀ l, Maps.has D0 l = true → ∃ z : Int, (Lit.int .u64 z).wf = true ∧ l = .int .u64 z) (hsz : Maps.size D0 < 2147483648) (w : World) (hBm : Bm < w.heap.size) (hm : w.cell? ⟨Bm, 0, none⟩ = some (.map (some b))) (hown : w.ownsMap Tryz.prog 28 tok b nn D0) :
    CallsIn F n Tryz.prog 130 #[.slice none 0 0, .func (.func 96) #[] #[.pointer (some ⟨Bm, 0, none⟩)]] w (ColU w D0) := by
  have h1 : 1 ≤ n := by omega
  obtain ⟨i0, hi, hz0, hz1, hz2⟩ := info_parts infoGU
  have hB0 : Below w.heap.size w (w.alloc (.cells #[.slice none 0 0] 122)) := (Below.refl _ w).alloc (Nat.le_refl _) _
  have hown1 : (w.alloc (.cells #[.slice none 0 0] 122)).ownsMap Tryz.prog 28 tok b nn D0 := by
    have hbl := hown.lt
    obtain ⟨es, clock, hb, Ft, hs, hD⟩ := hown
    exact ⟨es, clock, (hB0.block b hbl).trans hb, Ft, hs, hD⟩
  have hm1 : (w.alloc (.cells #[.slice none 0 0] 122)).cell? ⟨Bm, 0, none⟩ = some (.map (some b)) := (hB0.cell (p := ⟨Bm, 0, none⟩) hBm).trans hm
  have hst := key_stops F (n - 1) h5 hro (by omega) Bm b nn D0 hD _ (by simp; omega) hm1 hown1
  clear hown hm hown1 hm1 hD
  refine callsIn_of_wp_marks Tryz.func130 rfl h3 ?_ hro
  simp only [Tryz.ntmps130, List.size_toArray, List.length_cons, List.length_nil, Nat.reduceAdd, Nat.reduceSub, Array.replicate_succ, Array.replicate_zero, List.push_toArray, List.append_toArray, List.nil_append, List.cons_append]
  gi_wp2
  have bO := Boxed.new w 122 (.slice none 0 0)
  refine wpIn_rangeFunc_ownG hro h1 (gf := 96) (lb := #[.pointer (some ⟨Bm, 0, none⟩)]) rfl h5 (enters_of Tryz.func96 (by kernel_rfl) rfl)
    hst walksK_t walksK_b (Below.refl _ _) (fun _ => rfl)
    (fun pre W => (∃ v, Boxed W w.heap.size 122 v ∧ W.ownsRow w.heap.size 28 1 v pre.length (pre.map uv) ∧ (v = .slice none 0 0 ↔ pre = [])) ∧ Below w.heap.size w W)
    (fun _ _ _ => False)
    (OwnFrom.and (Own.from (holdsRow_own w.heap.size w.heap.size 122 28 1 (fun pre => pre.length) (fun pre => pre.map uv) (fun pre v => v = .slice none 0 0 ↔ pre = [])) _) (ownFrom_below (Nat.le_refl _) (by simp)))
    (fun _ _ _ _ _ hs _ _ => hs)
    ⟨⟨_, bO, World.ownsRow_nil _ _ _ _, by simp⟩, hB0⟩
    (fun x => { tmps := #[.slice none 0 0, .func (.func 96) #[] #[.pointer (some ⟨Bm, 0, none⟩)], .pointer (some ⟨w.heap.size, 0, none⟩), undef, .slice none 0 0, uv x, .func (.func 96) #[] #[.pointer (some ⟨Bm, 0, none⟩)], uv x, undef, undef, undef, undef, undef], defers := [] }) ?assign ?body ?done ?stop
  case assign =>
    intro l x W K hK
    gi_wp2
    exact hK
  case body =>
    rintro l pre x W ⟨⟨v, hv, hrow, hnil⟩, hB⟩ hlt
    have hc := hv.cell
    gi_wp2_with (gi_at_builtin; refine wpListIn_append_own _ rfl _ _ 122 rfl w.heap.size 28 i0 (.int .u64 0) 1 8 Tryz.underlying122 hi hz0 hz1 hz2 rfl (by decide) _ _ _ rfl (hrow.alloc _) ⟨W.heap.size, 0, none⟩ 1 1 [uv x] rfl rfl (cell_one_new _ _ _) (by simp [Value.oneCell']) (by unfold maxLen; omega) (by omega) (by have := hB.size; simp; omega) ?_; intro v' w1 hown' hgrow _; obtain ⟨g', cap', rfl⟩ := ownsRow_succ hown'; obtain ⟨hv1, hv2, hr2, hk2, hb2⟩ := hv.appended (by decide) hrow hB.size (Nat.le_refl _) hown' hgrow; have hc1 := hv1.cell; have hf1 := hv1.frozen)
    exact ⟨hk2.from _, hk2.walks, ⟨_, hv2, by simpa using hr2, by simp⟩, hB.trans hb2⟩
  case done =>
    rintro D ys W hD hS ⟨⟨v, hv, hrow, hnil⟩, hB⟩ hK
    have hc := hv.cell
    gi_wp2
    refine ⟨by simp, .inl ⟨_, _, rfl, run_takeDeferred hK, ?_⟩⟩
    exact ⟨_, results_tmp rfl _ _ _, v, ys, rfl, hS, ownsRow_putObj hrow _ hK rfl, hnil, hB.trans (belowK_b (w := w) (Nat.le_refl _) W D _ _ (by simp at hD; omega) hK rfl rfl)⟩
  case stop =>
    rintro D c pre W _ _ h _
    exact h.elim
theorem appsequ_any (Bm b nn : Nat) (D0 : DataW Value) (hD : ∀ l, Maps.has D0 l = true → ∃ z : Int, (Lit.int .u64 z).wf = true ∧ l = .int .u64 z) (hsz : Maps.size D0 < 2147483648) (w : World) (hBm : Bm < w.heap.size) (hm : w.cell? ⟨Bm, 0, none⟩ = some (.map (some b))) (hown : w.ownsMap Tryz.prog 28 tok b nn D0) :
    Calls Tryz.prog 130 #[.slice none 0 0, .func (.func 96) #[] #[.pointer (some ⟨Bm, 0, none⟩)]] w (ColU w D0) :=
  (callsIn_wide (n := 3)).1 (appsequ_in Fence.wide 3 trivial trivial rfl (Nat.le_refl _) Bm b nn D0 hD hsz w hBm hm hown)
theorem collectU_any (Bm b nn : Nat) (D0 : DataW Value) (hD : ∀ l, Maps.has D0 l = true → ∃ z : Int, (Lit.int .u64 z).wf = true ∧ l = .int .u64 z) (hsz : Maps.size D0 < 2147483648) (w : World) (hBm : Bm < w.heap.size) (hm : w.cell? ⟨Bm, 0, none⟩ = some (.map (some b))) (hown : w.ownsMap Tryz.prog 28 tok b nn D0) :
    Calls Tryz.prog 94 #[.func (.func 96) #[] #[.pointer (some ⟨Bm, 0, none⟩)]] w (ColU w D0) := by
  have H := hid (appsequ_any Bm b nn D0 hD hsz w hBm hm hown)
  clear hown hm hD
  go_enter Tryz.func94, Tryz.ntmps94
  go_wp2_with (go_at_call 130; refine (H.out).mono ?_; rintro e w' ⟨v, xs, rfl, h1, h2, h3, h4⟩; have HP := hid (And.intro h1 (And.intro h2 (And.intro h3 h4))); clear h1 h2 h3 h4)
  go_ret
  exact ⟨v, xs, rfl, HP.out⟩
theorem keysU_any (b : Nat) (w : World) : Calls Tryz.prog 56 #[.map (some b)] w fun e w' => e = .returned (.func (.func 96) #[] #[.pointer (some ⟨w.heap.size, 0, none⟩)]) ∧ w' = w.alloc (.cells #[.map (some b)] 91) := by
  go_enter Tryz.func56, Tryz.ntmps56
  go_wp2
  go_ret
  exact ⟨rfl, rfl⟩
end Go.Proofs.YtdehlnaoehjehaaGreatDoor
