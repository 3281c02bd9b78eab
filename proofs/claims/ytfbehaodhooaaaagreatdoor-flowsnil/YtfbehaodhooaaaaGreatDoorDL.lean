/-
  Proved here: slices.Delete of one row leaves it out, in place. Conditions: the place is one of the list's; fewer than 2 to 31.
-/
import Derived.Test.YtfbehaodhooaaaaGreatDoorIR
namespace Go.Proofs.YtfbehaodhooaaaaGreatDoor
set_option maxRecDepth 100000
open Go.RowKit

theorem zeroP : ∀ w, (zeroValue 131).run Tryz.prog w = .ok (.pointer none) w := fun w => by simp [go_sem]
set_option maxHeartbeats 1600000 in
set_option maxRecDepth 100000 in
theorem del_any {S : Nat → Prop} (w : World) (v : Value) (n i : Nat) (xs : List Value) (h : Rw S 1 131 w v n xs) (hi : i < n) (hn : n < 2147483648) (h1 : ∀ x ∈ xs, x.oneCell' = true) :
    Calls Tryz.prog 100 #[v, .int .i64 i, .int .i64 ((i : Int) + 1)] w fun r w' => ∃ v', r = .returned v' ∧ Apd w v w' ∧ Rw S 1 131 w' v' (n - 1) (xs.eraseIdx i) := by
  obtain ⟨i0, hi0, hz0, hz1, hz2⟩ := info_parts infoinR
  rcases h with ⟨hx, ⟨rfl, rfl⟩ | ⟨g, o, cap, cur, rfl, h2, h3, h4, h5, h6⟩⟩
  · omega
  rw [Nat.mul_one] at hx h5 h6
  obtain ⟨news, hnews⟩ : ∃ news, news = xs.drop (i + 1) := ⟨_, rfl⟩
  have hlen : news.length = n - (i + 1) := by rw [hnews, List.length_drop, hx]
  have hcell : ∀ t, w.drew.cell? ⟨g, o + t, none⟩ = cur[o + t]? := fun t => cell_of_row w g _ cur 131 (0, 0) h3
  have hfro : ∀ t, w.drew.frozen? ⟨g, t, none⟩ = false := fun t => by show w.frozen? _ = _; simp [World.frozen?, h3]
  obtain ⟨A, hA, hsrc⟩ : ∃ A : Addr, (if cap = i + 1 then some (⟨g, o, none⟩ : Addr) else some ⟨g, o + (i + 1), none⟩) = some A ∧ Hid (∀ t u, news[t]? = some u → w.drew.cell? (A.add t) = some u) := by
    by_cases h : cap = i + 1
    · refine ⟨⟨g, o, none⟩, by simp [h], fun t u hu => ?_⟩
      have h0 : news.length = 0 := by rw [hlen]; omega
      rw [List.length_eq_zero_iff.1 h0] at hu
      simp at hu
    · refine ⟨⟨g, o + (i + 1), none⟩, by simp [h], fun t u hu => ?_⟩
      have ht : t < n - (i + 1) := by
        have := (List.getElem?_eq_some_iff.1 hu).1
        rwa [hlen] at this
      rw [Addr.add_lit, show o + (i + 1) + t = o + (i + 1 + t) by omega, hcell, cells_at h6 (by omega), ← hu, hnews, List.getElem?_drop]
  have s1 : Hid (news.length = (n - (i + 1)) * 1) := by show _ = _; rw [Nat.mul_one]; exact hlen
  have s2 : Hid (∀ u ∈ news, u.oneCell' = true) := fun u hu => h1 u (by rw [hnews] at hu; exact List.mem_of_mem_drop hu)
  have s3 : Hid (∀ t, t < news.length → (w.drew.cell? ⟨g, o + i * 1 + t, none⟩).isSome = true ∧ w.drew.frozen? ⟨g, o + i * 1 + t, none⟩ = false) := by
    intro t ht
    rw [hlen] at ht
    rw [Nat.mul_one, Nat.add_assoc]
    exact ⟨by rw [hcell, Array.getElem?_eq_getElem (by omega)]; rfl, hfro _⟩
  obtain ⟨W1, hW1⟩ : ∃ W1, W1 = w.drew.setCells g (o + i * 1) news := ⟨_, rfl⟩
  obtain ⟨cur1, f1, f2, f3, f4, f5, f6⟩ := setCells_all g news (o + i * 1) w.drew cur 131 h3
  rw [← hW1] at f1 f5 f6
  rw [Nat.mul_one, hlen] at f3 f4
  have hcl : ∀ ty, (Builtin.clear_ #[126] ty #[.slice (some ⟨g, o + (n - 1), none⟩) (n - (n - 1)) (cap - (n - 1))]).run Tryz.prog W1 = .ok (.tuple #[]) (W1.setCells g (o + (n - 1)) (List.replicate (n - (n - 1)) (.pointer none))) :=
    fun ty => Lib.run_clear_slice W1 126 131 ty _ Tryz.underlying126 zeroP rfl rfl g (o + (n - 1)) _ _ (by omega) (fun t ht => by rw [cell_of_row W1 g _ cur1 131 (0, 0) f1, Array.getElem?_eq_getElem (by omega)]; rfl) (fun t ht => by simp [World.frozen?, f1])
  obtain ⟨W2, hW2⟩ : ∃ W2, W2 = W1.setCells g (o + (n - 1)) (List.replicate (n - (n - 1)) (.pointer none)) := ⟨_, rfl⟩
  rw [← hW2] at hcl
  obtain ⟨cur2, g1, g2, g3, g4, g5, g6⟩ := setCells_all g (List.replicate (n - (n - 1)) (.pointer none)) (o + (n - 1)) W1 cur1 131 f1
  rw [← hW2] at g1 g5 g6
  have hel : (xs.eraseIdx i).length = n - 1 := by rw [List.length_eraseIdx_of_lt (by omega), hx]
  have HR : Hid (Apd w (.slice (some ⟨g, o, none⟩) n cap) W2 ∧ Rw S 1 131 W2 (.slice (some ⟨g, o, none⟩) (n - 1) cap) (n - 1) (xs.eraseIdx i)) := by
    have hoth : ∀ j, j ≠ g → W2.heap[j]? = w.heap[j]? := fun j hj => (g5 j hj).trans (f5 j hj)
    refine ⟨⟨g6.os.trans f6.os, g6.tape.trans f6.tape, g6.output.trans f6.output, Nat.le_trans f6.size g6.size, fun j _ hne => hoth j (fun e => hne (by simp [Value.ownBlock, e]))⟩, by rw [Nat.mul_one]; exact hel, Or.inr ⟨g, o, cap, cur2, rfl, h2, g1, by omega, by omega, ?_⟩⟩
    rw [Nat.mul_one]
    apply List.ext_getElem?
    intro j
    rw [List.getElem?_take]
    by_cases hj : j < n - 1
    · rw [if_pos hj, List.getElem?_drop, Array.getElem?_toList, g3 (o + j) (Or.inl (by omega)), List.getElem?_eraseIdx]
      by_cases hji : j < i
      · rw [if_pos hji, f3 (o + j) (Or.inl (by omega)), cells_at h6 (by omega)]
      · rw [if_neg hji]
        have := f4 (j - i) (by omega) (by omega)
        rw [show o + i + (j - i) = o + j by omega] at this
        rw [this, hnews, List.getElem?_drop, show i + 1 + (j - i) = j + 1 by omega]
    · rw [if_neg hj, List.getElem?_eq_none (by omega)]
  have hW : Hid (W1 = w.drew.setCells g (o + i * 1) news) := hW1
  have hW' : Hid (W2 = W1.setCells g (o + (n - 1)) (List.replicate (n - (n - 1)) (.pointer none))) := hW2
  have hw1 : IntKind.i64.wrap ((i : Int) + 1) = (i : Int) + 1 := by rw [IntKind.wrap_i64]; omega
  have hb1 : (0 : Int) ≤ (i : Int) + 1 := by omega
  have htn : ((i : Int) + 1).toNat = i + 1 := by omega
  have hic : i ≤ cap := by omega
  have hic1 : i + 1 ≤ cap := by omega
  have hin1 : i + 1 ≤ n := by omega
  have hii : ¬ ((i : Int) = (i : Int) + 1) := by omega
  have hbe : ((i : Int) == (i : Int) + 1) = false := beq_eq_false_iff_ne.2 hii
  have hle1 : (i : Int) + 1 ≤ (n : Int) := by omega
  have hle2 : (i : Int) ≤ (i : Int) + 1 := by omega
  have hin : i + (n - (i + 1)) = n - 1 := by omega
  have hnn : n - 1 ≤ n := by omega
  have hnm : ¬ (cap = n - 1) := by omega
  clear hW1 hW2 hcell hfro hlen hnews f1 f2 f3 f4 f5 f6 g1 g2 g3 g4 g5 g6 h6 h3 hx hel
  go_enter Tryz.func100, Tryz.ntmps100
  go_wp2_with fail
  go_region_law (refine step_append_room rfl (.tmp 22) (.tmp 25) 126 rfl 131 i0 1 Tryz.underlying126 hi0 hz1 g o i cap (by simp [Act.eval, Act.put]) A (n - (i + 1)) (cap - (i + 1)) news (by simp [Act.eval, Act.put]) s1.out hsrc.out s2.out (by omega) s3.out ?_; rw [← hW.out, hin])
  all_goals (go_wp2; go_ret; exact ⟨_, rfl, HR.out⟩)
end Go.Proofs.YtfbehaodhooaaaaGreatDoor
