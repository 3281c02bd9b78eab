/-
  Proved here: ScanKnown of the statements returns true. Condition: the laid variables.
-/
import Derived.Test.YtbbankcmeanjaaaDoorM1
namespace Go.Proofs.YtbbankcmeanjaaaDoor
open Go.RowKit Go.Maps
set_option maxRecDepth 100000

theorem Laid.walk {w w' : World} {l : List (ByteArray × Value)} (h : Laid w w.heap.size l w') : ∃ n D, w'.ownsMap Tryd.prog 9 tok w.heap.size n D ∧ ∀ w0, w0.ranges Tryd.prog 9 tok w.heap.size w'.heap.size n D (Maps.has D) (Maps.size D) → w'.grownBy w0 none → Wk w w.heap.size w'.heap.size l w0 := by
  obtain ⟨n, -, D, h1, h2, h3⟩ := h.mp
  refine ⟨n, D, h1, fun w0 hr hg => ⟨⟨n, D, _, _, hr, fun _ h => h, h3⟩, h.low.trans ⟨hg.os, hg.tape, hg.output, by have := hg.size; have := h.low.size; omega, fun k hk => hg.block k (by have := h.low.size; omega) (by simp)⟩, Nat.le_refl _, h.low.size⟩⟩
theorem Wk.step {w : World} {b r : Nat} {l : List (ByteArray × Value)} {wr : World} (h : Wk w b r l wr) : ∃ n D left cnt, wr.ranges Tryd.prog 9 tok b r n D left cnt ∧
    ∀ (s : ByteArray) (c : Value) kl (y : DataW Value × List MemPlace) w1 cnt1, keyOf Tryd.prog 9 (.string s) = some kl → left kl = true → tok c = some y → (∀ zd, D.atKey kl zd = y.1) → w1.ranges Tryd.prog 9 tok b r n D (fun z => left z && !z.sameKey kl) cnt1 → cnt1 < cnt → wr.grownBy w1 (some r) → w1.heap.size = wr.heap.size →
      Wk w b r l w1 ∧ w1.rangeLeft b r < wr.rangeLeft b r ∧ (s, c) ∈ l := by
  obtain ⟨n, D, left, cnt, h1, h2, h3⟩ := h.rg
  refine ⟨n, D, left, cnt, h1, fun s c kl y w1 cnt1 hk hl hv hat hrg hlt hg hs => ⟨⟨⟨n, D, _, cnt1, hrg, fun k hk => h2 k (by simp at hk; exact hk.1), h3⟩, ?_, h.lb, h.lr⟩, by rw [hrg.left_eq, h1.left_eq]; exact hlt, ?_⟩⟩
  · exact ⟨hg.os.trans h.low.os, hg.tape.trans h.low.tape, hg.output.trans h.low.output, by rw [hs]; exact h.low.size, fun k hk => (hg.block k (Nat.lt_of_lt_of_le hk h.low.size) (by have := h.lr; simp; omega)).trans (h.low.block k hk)⟩
  · have hh := h2 kl hl
    obtain ⟨s', e1, e2, -⟩ := WideMaps.string_of_keyOf Tryd.underlying9 hk
    cases e1
    cases hg2 : lay l kl with
    | none => rw [(h3 kl).1 hg2] at hh; cases hh
    | some v =>
      have e := ((h3 kl).2 v hg2).2 (.held c)
      rw [hat] at e
      simp only [tok, Option.some.injEq] at hv
      rw [← hv] at e
      have hc : c = v := by simpa using e
      subst hc
      obtain ⟨p, hp, q1, q2⟩ := lay_mem l hg2
      rw [e2] at q1
      have : s = p.1 := by
        have q3 : s.data.toList = p.1.data.toList := by simpa using q1
        exact ByteArray.ext (Array.ext' q3)
      subst this
      subst q2
      exact hp

abbrev kt1 : ByteArray := ⟨#[48]⟩
abbrev kt2 : ByteArray := ⟨#[49, 56, 52, 52, 54, 55, 52, 52, 48, 55, 51, 55, 48, 57, 53, 53, 49, 54, 49, 53]⟩
abbrev kt3 : ByteArray := ⟨#[48, 120, 49, 70]⟩
abbrev kt4 : ByteArray := ⟨#[50, 53, 53, 46, 50, 53, 53, 46, 50, 53, 53, 46, 50, 53, 53]⟩
abbrev kt5 : ByteArray := ⟨#[48, 48, 58, 48, 48, 58, 48, 48, 58, 48, 48, 58, 48, 48, 58, 48, 97]⟩
abbrev kt6 : ByteArray := ⟨#[97, 98, 58, 99, 100, 58, 101, 102, 58, 48, 49, 58, 50, 51, 58, 52, 53]⟩
abbrev lK : List (ByteArray × Value) := [(kt6, .int .u64 188900966474565), (kt5, .int .u64 10), (kt4, .int .u64 4294967295), (kt3, .int .u64 31), (kt2, .int .u64 18446744073709551615), (kt1, .int .u64 0)]
theorem lK_all : ∀ p ∈ lK, ∃ (n z : Nat), p.2 = .int .u64 n ∧ p.1.size ≤ 100 ∧ all p.1 = .ok [⟨2, p.1, n, 0⟩, ⟨0, ⟨#[]⟩, 0, z⟩] := by
  intro p hp
  simp only [lK, List.mem_cons, List.not_mem_nil, or_false] at hp
  rcases hp with rfl | rfl | rfl | rfl | rfl | rfl
  · exact ⟨188900966474565, 17, rfl, by decide, by kernel_rfl⟩
  · exact ⟨10, 17, rfl, by decide, by kernel_rfl⟩
  · exact ⟨4294967295, 15, rfl, by decide, by kernel_rfl⟩
  · exact ⟨31, 4, rfl, by decide, by kernel_rfl⟩
  · exact ⟨18446744073709551615, 20, rfl, by decide, by kernel_rfl⟩
  · exact ⟨0, 1, rfl, by decide, by kernel_rfl⟩
abbrev ft1 : ByteArray := ⟨#[48, 49]⟩
abbrev ft2 : ByteArray := ⟨#[49, 46, 50, 46, 51]⟩
abbrev ft3 : ByteArray := ⟨#[48, 120, 103]⟩
abbrev ft4 : ByteArray := ⟨#[49, 56, 52, 52, 54, 55, 52, 52, 48, 55, 51, 55, 48, 57, 53, 53, 49, 54, 49, 54]⟩
abbrev ft5 : ByteArray := ⟨#[55, 97]⟩
abbrev ft6 : ByteArray := ⟨#[64]⟩
abbrev lF : List (ByteArray × Value) := [(ft6, .agg (dfc 150 0 ⟨#[64]⟩)), (ft5, .agg (dfc 150 0 ⟨#[55]⟩)), (ft4, .agg (dfc 3 0 ft4)), (ft3, .agg (dfc 150 0 ⟨#[48, 120]⟩)), (ft2, .agg (dfc 150 0 ft2)), (ft1, .agg (dfc 150 0 ft1))]
theorem lF_all : ∀ p ∈ lF, ∃ (c : Nat) (t : ByteArray), p.2 = .agg (dfc c 0 t) ∧ c ≠ 0 ∧ p.1.size ≤ 100 ∧ all p.1 = .no c 0 t := by
  intro p hp
  simp only [lF, List.mem_cons, List.not_mem_nil, or_false] at hp
  rcases hp with rfl | rfl | rfl | rfl | rfl | rfl
  · exact ⟨150, _, rfl, by decide, by decide, by kernel_rfl⟩
  · exact ⟨150, _, rfl, by decide, by decide, by kernel_rfl⟩
  · exact ⟨3, _, rfl, by decide, by decide, by kernel_rfl⟩
  · exact ⟨150, _, rfl, by decide, by decide, by kernel_rfl⟩
  · exact ⟨150, _, rfl, by decide, by decide, by kernel_rfl⟩
  · exact ⟨150, _, rfl, by decide, by decide, by kernel_rfl⟩
end Go.Proofs.YtbbankcmeanjaaaDoor
