/-
  Proved here: Tick of package line tells one datagram, 'tkL' of the end. Condition: the end's numbers are below 2 to 31.
-/
import Derived.Test.YtijjcopglbcoiaaQ8
import Derived.Test.YtijjcopglbcoiaaQ6
import Derived.Deep.RegionWith
namespace Go.Proofs.Ytijjcopglbcoiaa
open Go.RowKit Seal

theorem wd_take : ∀ (k s : Nat) (l : List (List Int)), wd k s (l.take k) = wd k s l
  | 0, _, _ => rfl
  | _ + 1, _, [] => rfl
  | k + 1, s, m :: r => by
    rw [List.take_succ_cons]
    unfold wd
    rw [wd_take k]

set_option maxRecDepth 100000 in
set_option maxHeartbeats 1600000 in
theorem qtick_any (S : Nat → Prop) (v : Value) (e : E) (w : World) (h : QE S w v e) (hfit : Fit e) :
    Calls Try.prog 20 #[v] w fun r w' => ∃ u, r = .returned u ∧ Below w.heap.size w w' ∧ Ls (fun k => w.heap.size ≤ k) w' u [tkL e] := by
  obtain ⟨g, f, vs, vn, rfl, h2, h3, h4, h5, h6⟩ := h
  have hg := (Array.getElem?_eq_some_iff.1 h4).1
  obtain ⟨so, scap, rfl, hsc, -⟩ := h5.form
  have hgot := hfit.got
  have hep := hfit.ep
  have hcm := hfit.come
  obtain ⟨n, hn⟩ : ∃ n : Nat, n = min e.sent.length 32 := ⟨_, rfl⟩
  have hn1 : n ≤ e.sent.length := by omega
  have hn2 : n ≤ 32 := by omega
  have hmin : (if (32 : Int) < (e.sent.length : Int) then (32 : Int) else (e.sent.length : Int)) = (n : Int) := by split <;> omega
  have HT : Hid (e.sent.take n = e.sent.take 32) := by
    show _ = _
    rw [hn]
    rcases Nat.le_total e.sent.length 32 with h | h
    · rw [Nat.min_eq_left h, List.take_length, List.take_of_length_le h]
    · rw [Nat.min_eq_right h]
  have HL : Hid ((e.sent.take n).length = n) := by show _ = _; rw [List.length_take]; omega
  have HWr : Hid (∀ wx : World, Below w.heap.size w wx → Calls Try.prog 36 #[.agg (dgc e.ep e.come e.got (.slice so n scap))] wx fun r w' => ∃ v, r = .returned v ∧ Below wx.heap.size wx w' ∧ Owns wx.heap.size w' v (tkL e)) := by
    show ∀ _, _
    intro wx hb
    have hls : Ls (fun k => k < wx.heap.size) wx (.slice so n scap) (e.sent.take n) := by
      have hl := (h5.ls (R := fun _ => True) (by omega) (fun _ _ => trivial) (fun _ _ => trivial)).carry (T := fun k => k < wx.heap.size) (w' := wx) fun k hk _ => ⟨Nat.lt_of_lt_of_le hk hb.size, hb.block k hk⟩
      obtain ⟨ao, cap, e1, q2, q3, q4, q5⟩ := hl
      simp only [Value.slice.injEq] at e1
      obtain ⟨rfl, _, rfl⟩ := e1
      refine ⟨so, scap, by rw [HL.out], by rw [HL.out]; omega, by rw [HL.out]; omega, q4, fun hne => ?_⟩
      obtain ⟨b, o, q6, q7, q8⟩ := q5 (fun e0 => by rw [e0] at hne; simp at hne)
      refine ⟨b, o, q6, q7, fun j hj => ?_⟩
      rw [HL.out] at hj
      obtain ⟨u, hu, hs⟩ := q8 j (by omega)
      refine ⟨u, hu, ?_⟩
      have e2 : (e.sent.take n).getD j [] = e.sent.getD j [] := by simp only [List.getD_eq_getElem?_getD, List.getElem?_take, if_pos hj]
      rw [e2]; exact hs
    have := write_any e.ep e.come e.got (.slice so n scap) (e.sent.take n) wx hls (by rw [HL.out]; exact hn2) (fun m hm => hfit.lens m (List.mem_of_mem_take hm)) hep
    rw [HT.out, wd_take] at this
    exact this
  have HB9 : Hid (IsB (tkL e) ∧ (tkL e).length ≤ 16388) := ⟨tkL_isB h5.allB, tkL_len e⟩
  obtain ⟨c0, c1, c2, c3, c4, -⟩ := end_cells h4
  clear h4 h5 h6 hn hfit
  go_enter Try.func20, Try.ntmps20
  go_upto_region 3 with fail
  go_region
  go_upto_region 4 with fail
  have HC : Hid (Calls Try.prog 36 #[.agg (dgc e.ep e.come e.got (.slice so n scap))] w.drew.drew fun r w' => ∃ a5 c5, r = .returned (.slice a5 (tkL e).length c5) ∧ Below w.heap.size w w' ∧ SlC (fun k => w.heap.size ≤ k) w' (.slice a5 (tkL e).length c5) (tkL e)) := by
    refine (HWr.out w.drew.drew (Below.refl _ _).drew.drew).mono ?_
    rintro r w' ⟨v5, rfl, hb5, ho5⟩
    have hs5 : SlC (fun k => w.heap.size ≤ k) w' v5 (tkL e) := SlC.own ho5 (by have := HB9.out.2; omega) HB9.out.1 fun k h1 _ => h1
    obtain ⟨a5, c5, e5, _⟩ := id hs5
    subst e5
    exact ⟨a5, c5, rfl, (Below.refl _ _).drew.drew.trans hb5, hs5⟩
  clear HWr HT HL
  go_region_with (go_at_call 36; refine (HC.out).mono ?_; rintro r w5 ⟨a5, c5, rfl, hb5, hs5⟩)
  all_goals (
    go_wp2
    go_ret
    refine ⟨_, rfl, hb5.trans (((Below.refl _ _).alloc (Nat.le_refl _) _).mono hb5.size), ?_⟩
    refine ⟨_, 1, rfl, Nat.le_refl _, by simp, (fun h => by cases h), fun _ => ⟨w5.heap.size, 0, hb5.size, rfl, fun j hj => ?_⟩⟩
    have hj0 : j = 0 := by simpa using hj
    subst hj0
    exact ⟨_, by rw [cell_of_row _ _ _ _ _ _ (heap_alloc_new _ _)]; rfl, hs5.carry fun k hk h => ⟨h, heap_alloc_old _ _ hk⟩⟩)
end Go.Proofs.Ytijjcopglbcoiaa
