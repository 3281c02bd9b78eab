/-
  Proved here: maps.Values over the map of rules, slices.AppendSeq and slices.Collect of it: a new slice of the map's values, each once, in some order. Condition: fewer than 2 to 31 entries.
-/
/-
  Laid here at this program's own numbers: the structures of the library's contracts for generic functions. Conditions: those of the contracts.
-/
import Derived.Test.YtdehlnaoehjehaaGreatDoorzFR
import Derived.RangeFuncNested
import Derived.RangeFuncBound
import Derived.RangeFuncCalls
import Derived.RangeFuncLeaves
import Derived.RangeFuncBox
import Derived.Shelf.Abstract
import Derived.Shelf.AbstractIn
import Derived.Shelf.RegionOpen
import Derived.Sort.MapsRangeIn
import Derived.WalkKit
import Derived.OwnWalkIn
import Derived.TacticsInMore
import Derived.RegionIn
import Derived.LoopNIn
import Derived.LoopIn
import Derived.Maps.AppendAt
import Derived.Shelf.SlSortCmp.NoneTotal
import Derived.Test.YtdehlnaoehjehaaGreatDoorProg
namespace Go.Proofs.YtdehlnaoehjehaaGreatDoor
set_option maxRecDepth 100000
open Go.RowKit Go.Maps Go.Shelf

attribute [local go_sem] Oper.semAt_some

/-- What has come of a map: pairs of keys and blocks. -/
structure Col (D : DataW Value) (left : Lit → Bool) (ps : List (Lit × Nat)) : Prop where
  nd : (ps.map (·.1)).Nodup
  mem : ∀ l, l ∈ ps.map (·.1) ↔ Maps.has D l = true ∧ left l = false
  val : ∀ q ∈ ps, ∀ zd, D.atKey q.1 zd = .held (pv q.2)
  sub : ∀ l, left l = true → Maps.has D l = true
/-- All has come. -/
def Vals (D : DataW Value) (xs : List Nat) : Prop := ∃ ps : List (Lit × Nat), xs = ps.map (·.2) ∧ (ps.map (·.1)).Nodup ∧ (∀ l, l ∈ ps.map (·.1) ↔ Maps.has D l = true) ∧ ∀ q ∈ ps, ∀ zd, D.atKey q.1 zd = .held (pv q.2)
theorem Col.start (D : DataW Value) : Col D (Maps.has D) [] := ⟨List.nodup_nil, fun l => by cases Maps.has D l <;> simp, (fun q hq => by cases hq), fun _ h => h⟩
theorem Col.step {D : DataW Value} {left : Lit → Bool} {ps : List (Lit × Nat)} (h : Col D left ps) {kl : Lit} {p : Nat} (hk : left kl = true) (hs : kl.sameKey kl = true) (hv : ∀ zd, D.atKey kl zd = .held (pv p)) : Col D (fun z => left z && !z.sameKey kl) (ps ++ [(kl, p)]) := by
  have hn : kl ∉ ps.map (·.1) := fun e => by have := ((h.mem kl).1 e).2; rw [hk] at this; cases this
  refine ⟨?_, fun l => ?_, fun q hq => ?_, fun l hl => h.sub l (by simp at hl; exact hl.1)⟩
  · rw [List.map_append, List.nodup_append]
    refine ⟨h.nd, by simp, fun a ha b hb e => ?_⟩
    simp at hb
    subst hb e
    exact hn ha
  · rw [List.map_append, List.mem_append, h.mem l]
    simp only [List.map_cons, List.map_nil, List.mem_cons, List.not_mem_nil, or_false]
    constructor
    · rintro (⟨h1, h2⟩ | rfl)
      · exact ⟨h1, by rw [h2]; rfl⟩
      · exact ⟨h.sub _ hk, by rw [hs]; simp⟩
    · rintro ⟨h1, h2⟩
      cases hl : left l with
      | false => exact Or.inl ⟨h1, rfl⟩
      | true =>
        rw [hl] at h2
        simp at h2
        exact Or.inr (WideAt.sameKey_eq h2)
  · rcases List.mem_append.1 hq with h1 | h1
    · exact h.val q h1
    · simp at h1
      subst h1
      exact hv
theorem Col.done {D : DataW Value} {left : Lit → Bool} {ps : List (Lit × Nat)} (h : Col D left ps) (h0 : ∀ l, left l = false) : Vals D (ps.map (·.2)) := ⟨ps, rfl, h.nd, fun l => by rw [h.mem l, h0]; simp, h.val⟩

set_option maxRecDepth 100000 in
set_option maxHeartbeats 1000000 in
theorem val1_in (F : Fence) (n : Nat) (hf : F.fn 128) (hro : F.round = none) (hn : 1 ≤ n) (l Bm b nn : Nat) (D0 : DataW Value) (hD : ∀ l, Maps.has D0 l = true → ∃ p, ∀ zd, D0.atKey l zd = .held (pv p)) (J Jx : List Nat → World → Prop)
    (hY : ∀ pre x W, J pre W → pre.length < Maps.size D0 → YieldAt F (n - 1) Tryz.prog l #[pv x] W fun e W' => (e = .returned (.bool true) ∧ J (pre ++ [x]) W' ∧ KeepsWalks W W') ∨ (e = .returned (.bool false) ∧ Jx (pre ++ [x]) W'))
    (W : World) (hJ : AbidesFrom W.heap.size J) (hm : W.cell? ⟨Bm, 0, none⟩ = some (.map (some b))) (hown : W.ownsMap Tryz.prog 3 tok b nn D0) (h0 : J [] W) :
    CallsIn F n Tryz.prog 128 #[.func (.yield l) #[] #[], .pointer (some ⟨Bm, 0, none⟩)] W fun e W' => (∃ v, e = .returned v) ∧ ((∃ xs, Vals D0 xs ∧ J xs W') ∨ ∃ pre, True ∧ Jx pre W') := by
  refine callsIn_of_wp Tryz.func128 rfl hf ?_ hro
  simp only [Tryz.ntmps128, List.size_toArray, List.length_cons, List.length_nil, Nat.reduceAdd, Nat.reduceSub, Array.replicate_succ, Array.replicate_zero, List.push_toArray, List.append_toArray, List.nil_append, List.cons_append]
  gi_wp2_with (first
    | (gi_at_range; refine wpListIn_range_own _ rfl _ 86 rfl 3 96 lawI Tryz.underlying86 _ b nn _ rfl hown ?_; intro w0 hrg0 hg0 hs0)
    | gi_in)
  go_frame
  gi_loopw [4] (fun _ wr => ∃ (left : Lit → Bool) (cnt : Nat) (ps : List (Lit × Nat)), wr.ranges Tryz.prog 3 tok b W.heap.size nn D0 left cnt ∧ ps.length + cnt ≤ Maps.size D0 ∧ Col D0 left ps ∧ J (ps.map (·.2)) wr)
    (fun _ wr => wr.rangeLeft b W.heap.size)
  case atStart => exact ⟨_, _, [], hrg0, by simp, Col.start D0, hJ [] W w0 none h0 hg0 (fun r e => by cases e)⟩
  case round =>
    obtain ⟨left, cnt, ps, hrg, hcs, hC, hJs⟩ := hrel
    gi_wp2_with (first
      | (gi_at_next; refine wpListIn_next_ranges _ rfl _ rfl 3 lawI tok (fun x : Value => x) (fun x : Value => x) (fun key _ _ => ⟨key, rfl⟩) (fun v _ _ => ⟨v, rfl⟩) b W.heap.size nn _ _ _ rfl hrg ?_ ?_)
      | gi_in)
    · intro hc0 hl0
      gi_wp2
      go_end0
      exact ⟨⟨_, rfl⟩, .inl ⟨_, hC.done hl0, hJs⟩⟩
    · intro x c kl yd yp w2 cnt2 hkey hlk hv hat hrg2 hlt hg2 hs2 hen
      obtain ⟨p, hp⟩ := hD kl (hC.sub kl hlk)
      obtain rfl : c = pv p := by
        have e := hp (.held c)
        rw [hat] at e
        simp only [tok, Option.some.injEq, Prod.mk.injEq] at hv
        rw [← hv.1] at e
        simpa using e
      have hself : kl.sameKey kl = true := WideAt.sameKey_self (lawI.key hkey)
      have hJ2 : J (ps.map (·.2)) w2 := hJ _ wr w2 (some W.heap.size) hJs hg2 (fun r e => by cases e; exact ⟨Nat.le_refl _, hrg.iter_walk⟩)
      obtain ⟨fn, tmps, assign, body, hy, hR⟩ := hY (ps.map (·.2)) p w2 hJ2 (by simp; omega)
      have hC2 := hC.step hlk hself hp
      clear hs2
      gi_wp2
      refine hR.mono ?_
      rintro e W3 (⟨rfl, hJ3, hk3⟩ | ⟨rfl, hJx3⟩)
      · gi_wp2
        have hrg3 := hrg2.of_walks hk3
        go_roundw
        case rel => exact ⟨_, cnt2, ps ++ [(kl, p)], hrg3, by simp; omega, hC2, by simpa using hJ3⟩
        case measure => rw [hrg3.left_eq, hrg.left_eq]; exact hlt
      · gi_wp2
        refine bodyPost_ret (results_none rfl _ _ _) rfl ?_
        exact ⟨⟨_, rfl⟩, .inr ⟨_, trivial, hJx3⟩⟩
theorem val_stops (F : Fence) (n : Nat) (hf : F.fn 128) (hro : F.round = none) (hn : 1 ≤ n) (Bm b nn : Nat) (D0 : DataW Value) (hD : ∀ l, Maps.has D0 l = true → ∃ p, ∀ zd, D0.atKey l zd = .held (pv p)) (w : World) (hBm : Bm < w.heap.size) (hm : w.cell? ⟨Bm, 0, none⟩ = some (.map (some b))) (hown : w.ownsMap Tryz.prog 3 tok b nn D0) :
    SeqStopsK F n Tryz.prog 128 #[.pointer (some ⟨Bm, 0, none⟩)] (fun x : Nat => #[pv x]) KeepsWalks (Vals D0) (fun _ => True) (Maps.size D0) w := fun l J Jx W hW hJ _ hY h0 => by
  have hown' : W.ownsMap Tryz.prog 3 tok b nn D0 := by
    have hbl := hown.lt
    obtain ⟨es, clock, hb, Ft, hs, hD⟩ := hown
    exact ⟨es, clock, (hW.block b hbl).trans hb, Ft, hs, hD⟩
  exact val1_in F n hf hro hn l Bm b nn D0 hD J Jx hY W hJ ((hW.cell (p := ⟨Bm, 0, none⟩) hBm).trans hm) hown' h0
theorem infoPE : (Tryz.prog.info? 96).map (fun i => (i.zero, i.size, i.bytes)) = some (some (.pointer none), 1, 8) := by kernel_rfl
/-- What is collected. -/
def ColP (w : World) (D0 : DataW Value) (e : Ending) (W' : World) : Prop := ∃ v xs, e = .returned v ∧ Vals D0 xs ∧ W'.ownsRow w.heap.size 96 1 v xs.length (xs.map pv) ∧ (v = .slice none 0 0 ↔ xs = []) ∧ Below w.heap.size w W'
set_option maxRecDepth 100000 in
set_option maxHeartbeats 2000000 in
theorem appseq_in (F : Fence) (n : Nat) (h3 : F.fn 157) (h5 : F.fn 128) (hro : F.round = none) (hn : 3 ≤ n) (Bm b nn : Nat) (D0 : DataW Value) (hD : ∀ l, Maps.has D0 l = true → ∃ p, ∀ zd, D0.atKey l zd = .held (pv p)) (hsz : Maps.size D0 < 2147483648) (w : World) (hBm : Bm < w.heap.size) (hm : w.cell? ⟨Bm, 0, none⟩ = some (.map (some b))) (hown : w.ownsMap Tryz.prog 3 tok b nn D0) :
    CallsIn F n Tryz.prog 157 #[.slice none 0 0, .func (.func 128) #[] #[.pointer (some ⟨Bm, 0, none⟩)]] w (ColP w D0) := by
  have h1 : 1 ≤ n := by omega
  obtain ⟨i0, hi, hz0, hz1, hz2⟩ := info_parts infoPE
  have hB0 : Below w.heap.size w (w.alloc (.cells #[.slice none 0 0] 114)) := (Below.refl _ w).alloc (Nat.le_refl _) _
  have hown1 : (w.alloc (.cells #[.slice none 0 0] 114)).ownsMap Tryz.prog 3 tok b nn D0 := by
    have hbl := hown.lt
    obtain ⟨es, clock, hb, Ft, hs, hD⟩ := hown
    exact ⟨es, clock, (hB0.block b hbl).trans hb, Ft, hs, hD⟩
  have hm1 : (w.alloc (.cells #[.slice none 0 0] 114)).cell? ⟨Bm, 0, none⟩ = some (.map (some b)) := (hB0.cell (p := ⟨Bm, 0, none⟩) hBm).trans hm
  have hst := val_stops F (n - 1) h5 hro (by omega) Bm b nn D0 hD _ (by simp; omega) hm1 hown1
  clear hown hm hown1 hm1 hD
  refine callsIn_of_wp_marks Tryz.func157 rfl h3 ?_ hro
  simp only [Tryz.ntmps157, List.size_toArray, List.length_cons, List.length_nil, Nat.reduceAdd, Nat.reduceSub, Array.replicate_succ, Array.replicate_zero, List.push_toArray, List.append_toArray, List.nil_append, List.cons_append]
  gi_wp2
  have bO := Boxed.new w 114 (.slice none 0 0)
  refine wpIn_rangeFunc_ownG hro h1 (gf := 128) (lb := #[.pointer (some ⟨Bm, 0, none⟩)]) rfl h5 (enters_of Tryz.func128 (by kernel_rfl) rfl)
    hst walksK_t walksK_b (Below.refl _ _) (fun _ => rfl)
    (fun pre W => (∃ v, Boxed W w.heap.size 114 v ∧ W.ownsRow w.heap.size 96 1 v pre.length (pre.map pv) ∧ (v = .slice none 0 0 ↔ pre = [])) ∧ Below w.heap.size w W)
    (fun _ _ _ => False)
    (OwnFrom.and (Own.from (holdsRow_own w.heap.size w.heap.size 114 96 1 (fun pre => pre.length) (fun pre => pre.map pv) (fun pre v => v = .slice none 0 0 ↔ pre = [])) _) (ownFrom_below (Nat.le_refl _) (by simp)))
    (fun _ _ _ _ _ hs _ _ => hs)
    ⟨⟨_, bO, World.ownsRow_nil _ _ _ _, by simp⟩, hB0⟩
    (fun x => { tmps := #[.slice none 0 0, .func (.func 128) #[] #[.pointer (some ⟨Bm, 0, none⟩)], .pointer (some ⟨w.heap.size, 0, none⟩), undef, .slice none 0 0, pv x, .func (.func 128) #[] #[.pointer (some ⟨Bm, 0, none⟩)], pv x, undef, undef, undef, undef, undef], defers := [] }) ?assign ?body ?done ?stop
  case assign =>
    intro l x W K hK
    gi_wp2
    exact hK
  case body =>
    rintro l pre x W ⟨⟨v, hv, hrow, hnil⟩, hB⟩ hlt
    have hc := hv.cell
    gi_wp2_with (gi_at_builtin; refine wpListIn_append_own _ rfl _ _ 114 rfl w.heap.size 96 i0 (.pointer none) 1 8 Tryz.underlying114 hi hz0 hz1 hz2 rfl (by decide) _ _ _ rfl (hrow.alloc _) ⟨W.heap.size, 0, none⟩ 1 1 [pv x] rfl rfl (cell_one_new _ _ _) (by simp [Value.oneCell']) (by unfold maxLen; omega) (by omega) (by have := hB.size; simp; omega) ?_; intro v' w1 hown' hgrow _; obtain ⟨g', cap', rfl⟩ := ownsRow_succ hown'; obtain ⟨hv1, hv2, hr2, hk2, hb2⟩ := hv.appended (by decide) hrow hB.size (Nat.le_refl _) hown' hgrow; have hc1 := hv1.cell; have hf1 := hv1.frozen)
    exact ⟨hk2.from _, hk2.walks, ⟨_, hv2, by simpa using hr2, by simp⟩, hB.trans hb2⟩
  case done =>
    rintro D ys W hD hS ⟨⟨v, hv, hrow, hnil⟩, hB⟩ hK
    have hc := hv.cell
    gi_wp2
    refine ⟨by simp, .inl ⟨_, _, rfl, run_takeDeferred hK, ?_⟩⟩
    exact ⟨_, results_tmp rfl _ _ _, v, ys, rfl, hS, ownsRow_putObj hrow _ hK rfl, hnil, hB.trans (belowK_b (w := w) (Nat.le_refl _) W D _ _ (by simp at hD; omega) hK rfl rfl)⟩
  case stop =>
    rintro D c pre W _ _ h _
    exact h.elim
theorem appseq_any (Bm b nn : Nat) (D0 : DataW Value) (hD : ∀ l, Maps.has D0 l = true → ∃ p, ∀ zd, D0.atKey l zd = .held (pv p)) (hsz : Maps.size D0 < 2147483648) (w : World) (hBm : Bm < w.heap.size) (hm : w.cell? ⟨Bm, 0, none⟩ = some (.map (some b))) (hown : w.ownsMap Tryz.prog 3 tok b nn D0) :
    Calls Tryz.prog 157 #[.slice none 0 0, .func (.func 128) #[] #[.pointer (some ⟨Bm, 0, none⟩)]] w (ColP w D0) :=
  (callsIn_wide (n := 3)).1 (appseq_in Fence.wide 3 trivial trivial rfl (Nat.le_refl _) Bm b nn D0 hD hsz w hBm hm hown)
theorem collect_any (Bm b nn : Nat) (D0 : DataW Value) (hD : ∀ l, Maps.has D0 l = true → ∃ p, ∀ zd, D0.atKey l zd = .held (pv p)) (hsz : Maps.size D0 < 2147483648) (w : World) (hBm : Bm < w.heap.size) (hm : w.cell? ⟨Bm, 0, none⟩ = some (.map (some b))) (hown : w.ownsMap Tryz.prog 3 tok b nn D0) :
    Calls Tryz.prog 126 #[.func (.func 128) #[] #[.pointer (some ⟨Bm, 0, none⟩)]] w (ColP w D0) := by
  have H := hid (appseq_any Bm b nn D0 hD hsz w hBm hm hown)
  clear hown hm hD
  go_enter Tryz.func126, Tryz.ntmps126
  go_wp2_with (go_at_call 157; refine (H.out).mono ?_; rintro e w' ⟨v, xs, rfl, h1, h2, h3, h4⟩; have HP := hid (And.intro h1 (And.intro h2 (And.intro h3 h4))); clear h1 h2 h3 h4)
  go_ret
  exact ⟨v, xs, rfl, HP.out⟩
theorem values_any (b : Nat) (w : World) : Calls Tryz.prog 90 #[.map (some b)] w fun e w' => e = .returned (.func (.func 128) #[] #[.pointer (some ⟨w.heap.size, 0, none⟩)]) ∧ w' = w.alloc (.cells #[.map (some b)] 86) := by
  go_enter Tryz.func90, Tryz.ntmps90
  go_wp2
  go_ret
  exact ⟨rfl, rfl⟩
end Go.Proofs.YtdehlnaoehjehaaGreatDoor
namespace Go.Proofs
open Go.Shelf
def Tryz.sortE_ren : Go.Shelf.Ren := ⟨fun | 6 => 127 | 15 => 132 | 14 => 158 | 28 => 168 | 29 => 169 | 20 => 189 | 21 => 190 | 22 => 191 | 23 => 192 | 24 => 193 | 25 => 194 | 26 => 195 | 27 => 196 | 46 => 214 | 47 => 198 | 48 => 199 | 49 => 215 | 50 => 216 | 57 => 228 | n => n, fun | 22 => 114 | 24 => 96 | 25 => 183 | 3 => 3 | 39 => 235 | 0 => 0 | 53 => 144 | 55 => 28 | 4 => 4 | 46 => 263 | 45 => 262 | 50 => 164 | 5 => 5 | 9 => 9 | 66 => 291 | 70 => 295 | 76 => 305 | 77 => 306 | n => n, fun | n => n⟩
theorem Tryz.sortE : Go.Proofs.SlLaysF.n6 Tryz.prog Tryz.sortE_ren := {
  mixed := by kernel_rfl
  f6 := ⟨Tryz.f127.name, by decide, Tryz.func127.trans (congrArg some (by kernel_rfl))⟩
  f14 := ⟨Tryz.f158.name, by decide, Tryz.func158.trans (congrArg some (by kernel_rfl))⟩
  f15 := Tryz.func132.trans (congrArg some (by kernel_rfl))
  f20 := ⟨Tryz.f189.name, by decide, Tryz.func189.trans (congrArg some (by kernel_rfl))⟩
  f21 := ⟨Tryz.f190.name, by decide, Tryz.func190.trans (congrArg some (by kernel_rfl))⟩
  f22 := ⟨Tryz.f191.name, by decide, Tryz.func191.trans (congrArg some (by kernel_rfl))⟩
  f23 := ⟨Tryz.f192.name, by decide, Tryz.func192.trans (congrArg some (by kernel_rfl))⟩
  f24 := ⟨Tryz.f193.name, by decide, Tryz.func193.trans (congrArg some (by kernel_rfl))⟩
  f25 := ⟨Tryz.f194.name, by decide, Tryz.func194.trans (congrArg some (by kernel_rfl))⟩
  f26 := ⟨Tryz.f195.name, by decide, Tryz.func195.trans (congrArg some (by kernel_rfl))⟩
  f27 := ⟨Tryz.f196.name, by decide, Tryz.func196.trans (congrArg some (by kernel_rfl))⟩
  f28 := Tryz.func168.trans (congrArg some (by kernel_rfl))
  f29 := Tryz.func169.trans (congrArg some (by kernel_rfl))
  f46 := ⟨Tryz.f214.name, by decide, Tryz.func214.trans (congrArg some (by kernel_rfl))⟩
  f47 := Tryz.func198.trans (congrArg some (by kernel_rfl))
  f48 := Tryz.func199.trans (congrArg some (by kernel_rfl))
  f49 := ⟨Tryz.f215.name, by decide, Tryz.func215.trans (congrArg some (by kernel_rfl))⟩
  f50 := ⟨Tryz.f216.name, by decide, Tryz.func216.trans (congrArg some (by kernel_rfl))⟩
  f57 := ⟨Tryz.f228.name, by decide, Tryz.func228.trans (congrArg some (by kernel_rfl))⟩
  t0 := Tryz.underlying0
  a0 := Tryz.isAgg0
  z0 := Tryz.sizeOf0
  v0 := Tryz.zeroValue0
  t3 := Tryz.underlying3
  a3 := Tryz.isAgg3
  z3 := Tryz.sizeOf3
  v3 := Tryz.zeroValue3
  t4 := Tryz.underlying4
  a4 := Tryz.isAgg4
  z4 := Tryz.sizeOf4
  v4 := Tryz.zeroValue4
  t5 := Tryz.underlying5
  a5 := Tryz.isAgg5
  z5 := Tryz.sizeOf5
  v5 := Tryz.zeroValue5
  t9 := Tryz.underlying9
  a9 := Tryz.isAgg9
  z9 := Tryz.sizeOf9
  v9 := Tryz.zeroValue9
  t22 := Tryz.underlying114
  a22 := Tryz.isAgg114
  z22 := Tryz.sizeOf114
  v22 := Tryz.zeroValue114
  a24 := Tryz.isAgg96
  z24 := Tryz.sizeOf96
  t25 := Tryz.underlying183
  a25 := Tryz.isAgg183
  z25 := Tryz.sizeOf183
  v25 := Tryz.zeroValue183
  t39 := Tryz.underlying235
  a39 := Tryz.isAgg235
  z39 := Tryz.sizeOf235
  v39 := Tryz.zeroValue235
  t45 := Tryz.underlying262
  a45 := Tryz.isAgg262
  z45 := Tryz.sizeOf262
  v45 := Tryz.zeroValue262
  t46 := Tryz.underlying263
  a46 := Tryz.isAgg263
  z46 := Tryz.sizeOf263
  v46 := Tryz.zeroValue263
  t50 := Tryz.underlying164
  a50 := Tryz.isAgg164
  z50 := Tryz.sizeOf164
  v50 := Tryz.zeroValue164
  t53 := Tryz.underlying144
  a53 := Tryz.isAgg144
  z53 := Tryz.sizeOf144
  v53 := Tryz.zeroValue144
  t55 := Tryz.underlying28
  a55 := Tryz.isAgg28
  z55 := Tryz.sizeOf28
  v55 := Tryz.zeroValue28
  t66 := Tryz.underlying291
  a66 := Tryz.isAgg291
  z66 := Tryz.sizeOf291
  v66 := Tryz.zeroValue291
  t70 := Tryz.underlying295
  a70 := Tryz.isAgg295
  z70 := Tryz.sizeOf295
  v70 := Tryz.zeroValue295
  t76 := Tryz.underlying305
  a76 := Tryz.isAgg305
  z76 := Tryz.sizeOf305
  v76 := Tryz.zeroValue305
  t77 := Tryz.underlying306
  a77 := Tryz.isAgg306
  z77 := Tryz.sizeOf306
  v77 := Tryz.zeroValue306 }
end Go.Proofs
