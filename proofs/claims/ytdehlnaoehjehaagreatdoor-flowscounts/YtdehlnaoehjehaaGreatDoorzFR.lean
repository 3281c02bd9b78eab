/-
  Proved here: slices.Clone at lists of lists of actions; fresh of package flows: the rule with lists of its own, in new memory. Condition: slices are no greater than slices may be.
-/
import Derived.Test.YtdehlnaoehjehaaGreatDoorzFS
namespace Go.Proofs.YtdehlnaoehjehaaGreatDoor
set_option maxRecDepth 100000
open Go.RowKit

theorem pickA {α : Type} {n : Nat} {p : Nat → α → Prop} (h : ∀ i, i < n → ∃ x, p i x) : ∃ l : List α, l.length = n ∧ ∀ i (hi : i < l.length), p i l[i] := by
  induction n with
  | zero => exact ⟨[], rfl, fun i hi => by simp at hi⟩
  | succ n ih =>
    obtain ⟨l, h1, h2⟩ := ih fun i hi => h i (by omega)
    obtain ⟨x, hx⟩ := h n (by omega)
    refine ⟨l ++ [x], by simp [h1], fun i hi => ?_⟩
    by_cases hlt : i < l.length
    · rw [List.getElem_append_left hlt]; exact h2 i hlt
    · have : i = l.length := by simp at hi; omega
      subst this
      rw [List.getElem_append_right (Nat.le_refl _)]
      simpa [h1] using hx
/-- The slices in a slice of slices. -/
theorem Cps.vals {T : Nat → Prop} {w : World} {a : Addr} {n cap : Nat} {cp : List (List Ac)} (h : Cps T w (.slice (some a) n cap) cp) : ∃ us : List Value, us.length = cp.length ∧ (∀ j x, us[j]? = some x → w.cell? (a.add j) = some x) ∧ ∀ j (_ : j < us.length) (h2 : j < cp.length), Acs T w us[j] cp[j] := by
  obtain ⟨ao, c, e, -, -, -, h5⟩ := h
  simp only [Value.slice.injEq] at e
  obtain ⟨us, h1, h2⟩ := pickA (n := cp.length) (p := fun i x => w.cell? (a.add i) = some x ∧ ∀ h : i < cp.length, Acs T w x cp[i]) (fun i hi => by
    obtain ⟨b, o, -, e2, hc⟩ := h5 (fun e => by rw [e] at hi; simp at hi)
    rw [e2] at e
    obtain ⟨e1, -, -⟩ := e
    cases e1
    obtain ⟨x, hx, hA⟩ := hc i hi
    exact ⟨x, by rw [Addr.add_lit]; simpa using hx, fun _ => hA⟩)
  refine ⟨us, h1, fun j x hx => ?_, fun j hj h3 => (h2 j hj).2 h3⟩
  obtain ⟨hj, rfl⟩ := List.getElem?_eq_some_iff.1 hx
  exact (h2 j hj).1
def ClQ (T : Nat → Prop) (w : World) (cp : List (List Ac)) (e : Ending) (w' : World) : Prop := ∃ v' us, e = .returned v' ∧ Below w.heap.size w w' ∧ us.length = cp.length ∧ w'.ownsRow w.heap.size 155 1 v' cp.length us ∧ ∀ j (_ : j < us.length) (h2 : j < cp.length), Acs T w us[j] cp[j]
theorem Acs.one {T : Nat → Prop} {w : World} {v : Value} {l : List Ac} (h : Acs T w v l) : v.oneCell' = true := by
  obtain ⟨ao, c, rfl, -⟩ := h.form
  rfl
set_option maxHeartbeats 800000 in
set_option maxRecDepth 100000 in
theorem clA_any {T : Nat → Prop} (w : World) (v : Value) (cp : List (List Ac)) (h : Cps T w v cp) (hb : cp.length * 24 ≤ 140737488355328) : Calls Tryz.prog 76 #[v] w (ClQ T w cp) := by
  have hq : ∀ (w : World) (a : Option Addr) (n c n' c' : Nat), (binOp .eql 33 (.slice a n c) (.slice none n' c')).run Tryz.prog w = .ok (.bool a.isNone) w := fun w a n c n' c' => Lib.run_eql_slice_nil w _ _ a n c n' c' Tryz.underlying33
  obtain ⟨ao, cap, rfl, h2, h3, h4, h5⟩ := id h
  cases ao with
  | none =>
    have hl : cp = [] := by
      cases cp with
      | nil => rfl
      | cons x l => obtain ⟨b, o, -, e, -⟩ := h5 (by simp); cases e
    subst hl
    clear h h5
    go_enter Tryz.func76, Tryz.ntmps76
    go_wp2
    go_ret
    exact ⟨_, [], rfl, Below.refl _ _, rfl, World.ownsRow_nil _ _ _ _, fun j hj => by simp at hj⟩
  | some a =>
    obtain ⟨i, hi, hz0, hz1, hz2⟩ := info_parts infoActs
    obtain ⟨us, hu1, hu2, hu3⟩ := Cps.vals h
    have HC : Hid (∀ (u : World) j x, us[j]? = some x → Below w.heap.size w u → u.cell? (a.add j) = some x) := fun u j x hx hu => cell_on hu (hu2 j x hx)
    have hone : ∀ x ∈ us, x.oneCell' = true := fun x hx => by
      obtain ⟨j, hj, rfl⟩ := List.getElem_of_mem hx
      exact (hu3 j hj (by omega)).one
    have HA := hid hu3
    clear h h5 hu2 hu3
    go_enter Tryz.func76, Tryz.ntmps76
    go_wp2_with (at_builtin; refine wpList_append_own _ rfl _ _ 33 rfl w.heap.size 155 i _ 1 24 Tryz.underlying33 hi hz0 hz1 hz2 rfl (by decide) _ _ _ rfl (World.ownsRow_made w #[] 0 (Nat.le_refl _) (Nat.zero_le _) (by simp)) a cp.length cap us rfl ?qc1 ?qc2 ?qc3 ?qc4 ?qc5 ?qc6 ?_)
    case qc1 => omega
    case qc2 => exact fun j x hx => HC.out _ j x hx ((Below.refl _ _).alloc (Nat.le_refl _) _)
    case qc3 => exact hone
    case qc4 => unfold maxLen; omega
    case qc5 => rw [Nat.zero_add]; exact hb
    case qc6 => simp
    intro v' w' hown hg hn
    have HO := hid hown
    have HB : Hid (Below w.heap.size w w') := ((Below.refl _ w).alloc (Nat.le_refl _) _).grown hg (by simp) (fun k hk => by simp [Value.ownBlock] at hk; omega)
    clear hown hg hn HC
    go_wp2
    go_ret
    exact ⟨_, us, rfl, HB.out, hu1, HO.out, HA.out⟩
theorem zero_rc : rc 0 zf nilS 0 = #[.int .i64 0, .int .u64 0, .int .u64 0, .int .u64 0, .int .u64 0, .int .u64 0, .int .u64 0, .int .u64 0, .int .u64 0, .int .u64 0, .int .u64 0, .int .u64 0, .int .u64 0, .int .u64 0, .int .u64 0, .int .u64 0, .int .u64 0, .int .u64 0, .int .u64 0, .int .u64 0, .int .u64 0, .int .u64 0, .int .u64 0, nilS, .int .u64 0] := by kernel_rfl
theorem rc_set (r : Int) (m : Nat → Int) (cp u : Value) (ck : Int) : (rc r m cp ck).setIfInBounds 23 u = rc r m u ck := by
  apply Array.ext_getElem?
  intro k
  rw [Array.getElem?_setIfInBounds, rc_size]
  by_cases h : 23 = k
  · subst h; rw [if_pos rfl, if_pos (by omega)]; simp [rc, row_size]
  · rw [if_neg h]
    by_cases hk : k < 23
    · have e : ∀ u, (rc r m u ck)[k]? = (#[.int .i64 r] ++ row 22 m)[k]? := fun u => by
        unfold rc
        rw [Array.getElem?_append_left (by simp [row_size]; omega)]
      rw [e, e]
    · by_cases h12 : k = 24
      · subst h12; simp [rc, row_size]
      · rw [Array.getElem?_eq_none (by rw [rc_size]; omega), Array.getElem?_eq_none (by rw [rc_size]; omega)]
theorem rc_cp (r : Int) (m : Nat → Int) (cp : Value) (ck : Int) : (rc r m cp ck)[23]? = some cp ∧ (rc r m cp ck)[24]? = some (.int .u64 ck) := by
  constructor <;> simp [rc, row_size]
theorem rc_one {r : Int} {m : Nat → Int} {cp : Value} {ck : Int} (h : cp.oneCell' = true) : (rc r m cp ck).all (·.oneCell') = true := by
  unfold rc
  rw [Array.all_append, Array.all_append, row_one]
  simp [h, show (Value.int .i64 r).oneCell' = true from rfl, show (Value.int .u64 ck).oneCell' = true from rfl]
/-- Where fresh is, i lists having come. -/
structure Frs (w : World) (r : Rl) (v' : Value) (g n : Nat) (us : List Value) (T : Nat → Prop) (i : Nat) (wr : World) : Prop where
  low : Below w.heap.size w wr
  box : wr.heap[w.heap.size]? = some (.cells (rlc r v') 35 (0, 0))
  res : wr.heap[w.heap.size + 1]? = some (.cells (rc 0 zf nilS 0) 35 (0, 0))
  cs : r.cp ≠ [] → ∃ cur, wr.heap[g]? = some (.cells cur 155 (0, 0)) ∧ n ≤ cur.size ∧ (∀ j, i ≤ j → (h : j < us.length) → cur[j]? = some us[j]) ∧ ∀ j, j < i → (h : j < r.cp.length) → ∃ u, cur[j]? = some u ∧ Acs (fun b => w.heap.size + 2 ≤ b ∧ b ≠ g) wr u r.cp[j]
structure HF5 (b g n cap : Nat) (w : World) : Prop where
  c : w.cell? ⟨b, 23, none⟩ = some (.slice (some ⟨g, 0, none⟩) n cap)
def FrP (w : World) (r : Rl) (e : Ending) (w' : World) : Prop := ∃ u', e = .returned (.agg (rlc r u')) ∧ Below w.heap.size w w' ∧ Cps (fun b => w.heap.size ≤ b) w' u' r.cp
theorem Frs.next {w wr w1 : World} {r : Rl} {v' : Value} {g n : Nat} {us : List Value} {T : Nat → Prop} {i : Nat} (h : Frs w r v' g n us T i wr) (hgw : w.heap.size + 1 < g) (hi : i < r.cp.length) (hn : r.cp.length ≤ n) (hb : Below wr.heap.size wr w1) {x : Value} (hx : Acs (fun b => wr.heap.size ≤ b) w1 x r.cp[i]) : Frs w r v' g n us T (i + 1) (w1.setCell ⟨g, i, none⟩ x) := by
  obtain ⟨cur, hg, hnc, h1, h2⟩ := h.cs (fun e => by rw [e] at hi; simp at hi)
  have hgl := (Array.getElem?_eq_some_iff.1 hg).1
  have oth : ∀ b, b < wr.heap.size → b ≠ g → (w1.setCell ⟨g, i, none⟩ x).heap[b]? = wr.heap[b]? := fun b hb1 hne => by
    rw [heap_setCell_other w1 ⟨g, i, none⟩ b x hne, hb.block b hb1]
  have hsz := h.low.size
  have hg1 : w1.heap[g]? = some (.cells cur 155 (0, 0)) := (hb.block g hgl).trans hg
  have hs1 := hb.size
  refine ⟨?_, ?_, ?_, fun _ => ⟨cur.setIfInBounds i x, heap_setCell_same w1 g i cur _ x hg1, by simpa using hnc, fun j hj hjl => ?_, fun j hj hjl => ?_⟩⟩
  · exact (h.low.trans (hb.mono hsz)).setCell (p := ⟨g, i, none⟩) (by show w.heap.size ≤ g; omega) x
  · rw [oth _ (Array.getElem?_eq_some_iff.1 h.box).1 (by omega)]; exact h.box
  · rw [oth _ (Array.getElem?_eq_some_iff.1 h.res).1 (by omega)]; exact h.res
  · rw [Array.getElem?_setIfInBounds, if_neg (by omega)]; exact h1 j (by omega) hjl
  · rw [Array.getElem?_setIfInBounds]
    by_cases e : i = j
    · subst e
      rw [if_pos rfl, if_pos (by omega)]
      refine ⟨x, rfl, Acs.carry (fun b hb1 hS => ⟨⟨by have := (Array.getElem?_eq_some_iff.1 h.res).1; omega, by omega⟩, heap_setCell_other w1 ⟨g, i, none⟩ b x (by show b ≠ g; omega)⟩) hx⟩
    · rw [if_neg e]
      obtain ⟨u, hu, hA⟩ := h2 j (by omega) hjl
      exact ⟨u, hu, Acs.carry (fun b hb1 hS => ⟨hS, oth b hb1 hS.2⟩) hA⟩
theorem Frs.drew {w wr : World} {r : Rl} {v' : Value} {g n : Nat} {us : List Value} {T : Nat → Prop} {i : Nat} (h : Frs w r v' g n us T i wr) : Frs w r v' g n us T i wr.drew :=
  ⟨h.low.drew, h.box, h.res, fun hne => by
    obtain ⟨cur, h1, h2, h3, h4⟩ := h.cs hne
    exact ⟨cur, h1, h2, h3, fun j hj hl => by
      obtain ⟨u, hu, hA⟩ := h4 j hj hl
      exact ⟨u, hu, Acs.carry (w := wr) (fun b _ hS => ⟨hS, rfl⟩) hA⟩⟩⟩
theorem own_parts {w : World} {base e n cap : Nat} {ao : Option Addr} {us : List Value} (h : w.ownsRow base e 1 (.slice ao n cap) n us) : ∃ g, base ≤ g ∧ n ≤ cap ∧ (ao = none → cap = 0) ∧ (n ≠ 0 → ao = some ⟨g, 0, none⟩ ∧ ∃ cur, w.heap[g]? = some (.cells cur e (0, 0)) ∧ n ≤ cur.size ∧ ∀ j (h : j < us.length), cur[j]? = some us[j]) := by
  have hl := h.1
  rcases h.2 with ⟨e1, rfl⟩ | ⟨g, cap', cur, e1, hb, hg, h1, h2, h3, h4⟩
  · simp only [Value.slice.injEq] at e1
    obtain ⟨rfl, -, rfl⟩ := e1
    exact ⟨base, Nat.le_refl _, Nat.le_refl _, fun _ => rfl, fun h => absurd rfl h⟩
  · simp only [Value.slice.injEq] at e1
    obtain ⟨rfl, -, rfl⟩ := e1
    refine ⟨g, hb, h1, (fun h => by cases h), fun _ => ⟨rfl, cur, hg, by omega, fun j hj => ?_⟩⟩
    have : us[j]? = some us[j] := List.getElem?_eq_getElem hj
    rw [← this, ← h4, List.getElem?_take, if_pos (by omega)]
    simp
theorem own_form {w : World} {base e k n : Nat} {v : Value} {xs : List Value} (h : w.ownsRow base e k v n xs) : ∃ ao cap, v = .slice ao n cap := by
  rcases h.2 with ⟨rfl, rfl⟩ | ⟨g, cap, cur, rfl, _⟩
  · exact ⟨_, _, rfl⟩
  · exact ⟨_, _, rfl⟩
set_option maxHeartbeats 1600000 in
set_option maxRecDepth 100000 in
theorem fresh_any {T : Nat → Prop} (w : World) (r : Rl) (u : Value) (h : Cps T w u r.cp) (hT : ∀ b, T b → b < w.heap.size) (hs : Sml r.cp) : Calls Tryz.prog 37 #[.agg (rlc r u)] w (FrP w r) := by
  obtain ⟨W0, hW0⟩ : ∃ W0, W0 = (w.alloc (.cells (rlc r u) 35)).alloc (.cells (rc 0 zf nilS 0) 35) := ⟨_, rfl⟩
  have hB0 : Below w.heap.size w W0 := by rw [hW0]; exact ((Below.refl _ _).alloc (Nat.le_refl _) _).alloc (by simp) _
  have hs0 : W0.heap.size = w.heap.size + 2 := by rw [hW0]; simp
  have hX0 : W0.heap[w.heap.size]? = some (.cells (rlc r u) 35 (0, 0)) := by rw [hW0, heap_alloc_old _ _ (by simp)]; exact heap_alloc_new _ _
  have hY0 : W0.heap[w.heap.size + 1]? = some (.cells (rc 0 zf nilS 0) 35 (0, 0)) := by
    have := heap_alloc_new (w.alloc (.cells (rlc r u) 35)) (.cells (rc 0 zf nilS 0) 35)
    rw [World.size_alloc] at this
    rw [hW0]; exact this
  have q0 : W0.cell? ⟨w.heap.size, 23, none⟩ = some u := by rw [cell_of_row _ _ _ _ _ _ hX0]; exact (rc_cp _ _ _ _).1
  have h0 : Cps T W0 u r.cp := Cps.carry (fun b hb hS => ⟨hS, hB0.block b hb⟩) h
  have HC := hid (clA_any W0 u r.cp h0 hs.1)
  have HK : Hid (∀ w1, Below W0.heap.size W0 w1 → w1.heap[w.heap.size]? = some (.cells (rlc r u) 35 (0, 0)) ∧ w1.heap[w.heap.size + 1]? = some (.cells (rc 0 zf nilS 0) 35 (0, 0))) := fun w1 hb => ⟨(hb.block _ (by omega)).trans hX0, (hb.block _ (by omega)).trans hY0⟩
  have HB0 := hid (And.intro hB0 hs0)
  have HS := hid hs
  have HT := hid hT
  have HW0 := hid hW0
  clear hB0 hs0 hX0 hY0 h0 h hs hT hW0
  go_enter Tryz.func37, Tryz.ntmps37
  go_upto_region 1 with fail
  rw [← zero_rc, ← HW0.out]
  clear HW0
  go_upto_region 2 with (go_at_call 76; refine (HC.out).mono ?_; rintro e w1 ⟨v', us, rfl, hb1, hu, ho, hA⟩
                         obtain ⟨ao, cap, rfl⟩ := own_form ho
                         obtain ⟨k1, k2⟩ := HK.out w1 hb1
                         have k3 : ∃ y, w1.cell? ⟨w.heap.size, 23, none⟩ = some y := ⟨_, by rw [cell_of_row _ _ _ _ _ _ k1]; exact (rc_cp _ _ _ _).1⟩
                         obtain ⟨y, k3⟩ := k3
                         have k4 : w1.frozen? ⟨w.heap.size, 23, none⟩ = false := by simp [World.frozen?, k1]
                         have H1 := hid (And.intro hb1 (And.intro hu (And.intro ho (And.intro hA (And.intro k1 k2)))))
                         clear hb1 hu ho hA k1 k2)
  obtain ⟨hb1, hu, ho, hA, k1, k2⟩ := H1.out
  obtain ⟨hB0, hs0⟩ := HB0.out
  obtain ⟨g, hg0, hnc, hao, hnz⟩ := own_parts ho
  obtain ⟨v', hv'⟩ : ∃ v', v' = Value.slice ao r.cp.length cap := ⟨_, rfl⟩
  obtain ⟨W1, hW1⟩ : ∃ W1, W1 = w1.setCell ⟨w.heap.size, 23, none⟩ v' := ⟨_, rfl⟩
  have oth : ∀ b, b ≠ w.heap.size → W1.heap[b]? = w1.heap[b]? := fun b hb => by rw [hW1]; exact heap_setCell_other w1 ⟨w.heap.size, 23, none⟩ b v' hb
  have hB1 : Below w.heap.size w w1 := hB0.trans (hb1.mono hB0.size)
  have hbx : W1.heap[w.heap.size]? = some (.cells (rlc r v') 35 (0, 0)) := by
    rw [hW1, heap_setCell_same w1 w.heap.size 23 _ _ v' k1]
    exact congrArg (fun c => some (Obj.cells c 35 (0, 0))) (rc_set _ _ _ _ _)
  have hsz := hb1.size
  have hF : Frs w r v' g r.cp.length us T 0 W1 := by
    refine ⟨by rw [hW1]; exact hB1.setCell (p := ⟨w.heap.size, 23, none⟩) (Nat.le_refl _) v', hbx, (oth _ (by omega)).trans k2, fun hne => ?_⟩
    obtain ⟨-, cur, h1, h2, h3⟩ := hnz (fun e => hne (List.eq_nil_of_length_eq_zero e))
    exact ⟨cur, (oth g (by omega)).trans h1, h2, fun j _ hj => h3 j hj, fun j hj => by omega⟩
  have q1 : W1.cell? ⟨w.heap.size, 23, none⟩ = some (.slice ao r.cp.length cap) := by rw [cell_of_row _ _ _ _ _ _ hbx, ← hv']; exact (rc_cp _ _ _ _).1
  have hA1 : ∀ wr, Below w.heap.size w wr → ∀ j (_ : j < us.length) (h2 : j < r.cp.length), Acs T wr us[j] r.cp[j] := fun wr hb j hj h2 => by
    have h3 := hA j hj h2
    refine Acs.carry (w := W0) (fun b hb1 hS => ⟨hS, ?_⟩) h3
    rw [hB0.block b (HT.out b hS), hb.block b (HT.out b hS)]
  rw [← hv', ← hW1]
  have HF := hid hF
  have HA := hid hA1
  have H2 := hid (And.intro hg0 (And.intro hnc (And.intro hao (And.intro hnz (And.intro hu (And.intro hv' hs0))))))
  have hlen : r.cp.length ≤ 140737488355328 := by have := HS.out.1; omega
  clear hF hA1 hB1 oth hbx hW1 H1 hb1 hu ho hA k1 k2 k3 k4 hg0 hnc hao hnz hsz hB0 hs0 HB0 HK HC q0 hv'
  go_upto_region 3 with fail
  go_loopw [12] (fun i wr => ∃ k : Nat, k ≤ r.cp.length ∧ i = .int .i64 k ∧ Frs w r v' g r.cp.length us T k wr) (fun i _ => r.cp.length - (intOf i).toNat)
  case atStart => exact ⟨0, by omega, rfl, HF.out⟩
  case round =>
    obtain ⟨k, hk, rfl, hrel⟩ := hrel
    generalize wr = wx at *
    have HR := hid hrel
    clear hrel HF
    by_cases hlt : k < r.cp.length
    · obtain ⟨hg0, hnc, hao, hnz, hu, hv', hs0⟩ := H2.out
      obtain ⟨rfl, -⟩ := hnz (by omega)
      have hne : r.cp ≠ [] := fun e => by rw [e] at hlt; simp at hlt
      obtain ⟨cur, hc1, hc2, hc3, hc4⟩ := HR.out.cs hne
      have hul : k < us.length := by omega
      obtain ⟨x, hx⟩ : ∃ x, us[k] = x := ⟨_, rfl⟩
      have q2 : wx.cell? ⟨g, k, none⟩ = some x := by rw [cell_of_row _ _ _ _ _ _ hc1, hc3 k (Nat.le_refl _) hul, hx]
      have q3 : wx.cell? ⟨w.heap.size, 23, none⟩ = some (.slice (some ⟨g, 0, none⟩) r.cp.length cap) := by
        rw [cell_of_row _ _ _ _ _ _ HR.out.box, ← hv']; exact (rc_cp _ _ _ _).1
      have hAx : Acs T wx x r.cp[k] := hx ▸ HA.out wx HR.out.low k hul hlt
      have HX := hid (clB_any wx.drew x r.cp[k] (Acs.carry (w := wx) (fun b _ hS => ⟨hS, rfl⟩) hAx) (HS.out.2 _ (List.getElem_mem hlt)))
      have hgl := (Array.getElem?_eq_some_iff.1 hc1).1
      have HQ : Hid (∀ w1, Below wx.drew.heap.size wx.drew w1 → w1.cell? ⟨g, k, none⟩ = some x ∧ w1.frozen? ⟨g, k, none⟩ = false ∧ w1.cell? ⟨w.heap.size, 23, none⟩ = some (.slice (some ⟨g, 0, none⟩) r.cp.length cap)) := fun w1 hb =>
        ⟨cell_on (w := wx.drew) hb q2, by rw [hb.frozen (p := ⟨g, k, none⟩) hgl]; show wx.frozen? _ = _; simp [World.frozen?, hc1], cell_on (w := wx.drew) hb q3⟩
      have hgw : w.heap.size + 1 < g := by omega
      clear hnz hao hnc hu hv' hs0 hc1 hc2 hc3 hc4 hAx hx hg0
      go_upto_region 5 with fail
      refine wp_region_held_drew (S := HF5 w.heap.size g r.cp.length cap) (by kernel_rfl) ⟨q3⟩ (fun hHeld => ?_)
      refine wpAnyH_take (i := 0) (v := ?_) rfl (by kernel_rfl) (by kernel_rfl) (by kernel_rfl) (fun _ _ _ h => h) (Or.inl ⟨by rfl, ?_⟩) hHeld ?_
      rotate_left
      · intro w' hSw
        clear hSw
        go_simp
        first | done | with_reducible rfl
      simp only [Act.put, List.getElem_toArray, List.getElem_cons_zero, List.setIfInBounds_toArray, List.set_cons_zero, List.set_cons_succ]
      refine wpAnyH_take (i := 1) (v := ?_) rfl (by kernel_rfl) (by kernel_rfl) (by kernel_rfl) (fun _ _ _ h => h) (Or.inl ⟨by rfl, ?_⟩) hHeld ?_
      rotate_left
      · intro w' hSw
        have c := hSw.c
        clear hSw
        go_simp
        first | done | with_reducible rfl
      simp only [Act.put, List.getElem_toArray, List.getElem_cons_succ, List.getElem_cons_zero, List.setIfInBounds_toArray, List.set_cons_zero, List.set_cons_succ]
      refine wpAnyH_take (i := 2) (v := ?_) rfl (by kernel_rfl) (by kernel_rfl) (by kernel_rfl) (fun _ _ _ h => h) (Or.inl ⟨by rfl, ?_⟩) hHeld ?_
      rotate_left
      · intro w' hSw
        clear hSw
        go_simp
        first | done | with_reducible rfl
      simp only [Act.put, List.getElem_toArray, List.getElem_cons_succ, List.getElem_cons_zero, List.setIfInBounds_toArray, List.set_cons_zero, List.set_cons_succ]
      refine wpAnyH_take (i := 3) (v := ?_) rfl (by kernel_rfl) (by kernel_rfl) (by kernel_rfl) (fun _ _ _ h => h) (Or.inl ⟨by rfl, ?_⟩) hHeld ?_
      rotate_left
      · intro w' hSw
        clear hSw
        go_simp
        first | done | with_reducible rfl
      simp only [Act.put, List.getElem_toArray, List.getElem_cons_succ, List.getElem_cons_zero, List.setIfInBounds_toArray, List.set_cons_zero, List.set_cons_succ]
      refine wpAnyH_ready (rs := [4]) (by kernel_rfl) (by simp) ?_
      refine AllReadyH.cons rfl (fun K hK => ?_) AllReadyH.nil
      refine stepFnW 77 (.func 77) [.tmp 20] _ [x] rfl rfl rfl rfl (fun _ => rfl) _ HX.out ?_
      rintro e w1 ⟨x', rfl, hb1, hx'⟩
      refine Or.inl ⟨_, rfl, ?_⟩
      obtain ⟨k1, k2, k3⟩ := HQ.out w1 hb1
      refine hK.out _ _ ⟨k3⟩ (fun hHeld => ?_)
      clear hK K
      simp only [Act.put, List.getElem_toArray, List.getElem_cons_succ, List.getElem_cons_zero, List.setIfInBounds_toArray, List.set_cons_zero, List.set_cons_succ]
      obtain ⟨ao', cap', rfl, -⟩ := Lst.form hx'
      refine wpAnyH_take (i := 5) (v := ?_) rfl (by kernel_rfl) (by kernel_rfl) (by kernel_rfl) (fun _ _ _ h => h) (Or.inl ⟨by rfl, ?_⟩) hHeld ?_
      rotate_left
      · intro w' hSw
        clear hSw
        go_simp
        first | done | with_reducible rfl
      simp only [Act.put, List.getElem_toArray, List.getElem_cons_succ, List.getElem_cons_zero, List.setIfInBounds_toArray, List.set_cons_zero, List.set_cons_succ]
      refine wpAnyH_ready (rs := [6]) (by kernel_rfl) (by simp) ?_
      refine AllReadyH.cons rfl (fun K hK => ?_) AllReadyH.nil
      refine stepStA (.tmp 22) (.tmp 21) rfl rfl g k ao' _ cap' x rfl rfl k1 k2 ?_
      have hF1 : Frs w r v' g r.cp.length us T (k + 1) (w1.setCell ⟨g, k, none⟩ (.slice ao' r.cp[k].length cap')) := HR.out.drew.next hgw hlt (Nat.le_refl _) hb1 hx'
      have q4 : (w1.setCell ⟨g, k, none⟩ (.slice ao' r.cp[k].length cap')).cell? ⟨w.heap.size, 23, none⟩ = some (.slice (some ⟨g, 0, none⟩) r.cp.length cap) := by
        rw [cell_same (heap_setCell_other w1 ⟨g, k, none⟩ w.heap.size _ (by show w.heap.size ≠ g; omega))]; exact k3
      refine hK.out _ _ ⟨q4⟩ (fun hHeld => ?_)
      clear hK K
      simp only [Act.put, List.getElem_toArray, List.getElem_cons_succ, List.getElem_cons_zero]
      refine wpAnyH_done (by kernel_rfl) ?_ _
      have HF1 := hid hF1
      clear hF1 q4 k1 k2 k3 hx' hb1 HQ HX q2 q3 HR
      go_wp2
      go_roundw
      case rel => exact ⟨k + 1, by omega, by go_num, HF1.out⟩
      case measure => simp [intOf]; omega
    · obtain rfl : k = r.cp.length := by omega
      obtain ⟨hg0, hnc, hao, hnz, hu, hv', hs0⟩ := H2.out
      have HRg : Hid (wx.rangeAt w.heap.size 0 (rlc r v').toList) := range_of fun i hi => by rw [Nat.zero_add, cell_of_row _ _ _ _ _ _ HR.out.box]
      have hv1 : (rlc r v').all (·.oneCell') = true := by
        apply rc_one
        rw [hv']; rfl
      have hCp : Cps (fun b => w.heap.size ≤ b) wx v' r.cp := by
        refine ⟨ao, cap, hv', hnc, hlen, hao, fun hne => ?_⟩
        obtain ⟨cur, h1, h2, h3, h4⟩ := HR.out.cs hne
        obtain ⟨rfl, -⟩ := hnz (fun e => hne (List.eq_nil_of_length_eq_zero e))
        refine ⟨g, 0, by show w.heap.size ≤ g; omega, rfl, fun j hj => ?_⟩
        obtain ⟨u, hu', hA⟩ := h4 j hj hj
        exact ⟨u, by show wx.cell? ⟨g, 0 + j * 1 + 0, none⟩ = some u; rw [cell_of_row _ _ _ _ _ _ h1]; simpa using hu', Acs.carry (fun b _ hS => ⟨by show w.heap.size ≤ b; omega, rfl⟩) hA⟩
      have hWr : (wx.setRow (w.heap.size + 1) (rlc r v')).heap[w.heap.size + 1]? = some (.cells (rlc r v') 35 (0, 0)) := setRow_heap wx _ _ _ _ _ HR.out.res
      have HWr := hid hWr
      have HE : Hid (FrP w r (.returned (.agg (rlc r v'))) (wx.setRow (w.heap.size + 1) (rlc r v'))) := by
        refine ⟨v', rfl, below_setRow HR.out.low (by omega) _, ?_⟩
        have oth : ∀ b, b ≠ w.heap.size + 1 → (wx.setRow (w.heap.size + 1) (rlc r v')).heap[b]? = wx.heap[b]? := fun b hb => setRow_other wx _ b _ hb
        obtain ⟨ao2, cap2, e1, e2, e3, e4, e5⟩ := hCp
        refine ⟨ao2, cap2, e1, e2, e3, e4, fun hne => ?_⟩
        obtain ⟨cur, h1, h2, h3, h4⟩ := HR.out.cs hne
        obtain ⟨rfl, -⟩ := hnz (fun e => hne (List.eq_nil_of_length_eq_zero e))
        rw [hv'] at e1
        simp only [Value.slice.injEq] at e1
        refine ⟨g, 0, by show w.heap.size ≤ g; omega, e1.1.symm, fun j hj => ?_⟩
        obtain ⟨u, hu', hA⟩ := h4 j hj hj
        refine ⟨u, ?_, Acs.carry (fun b _ hS => ⟨by show w.heap.size ≤ b; omega, oth b (by omega)⟩) hA⟩
        show (wx.setRow (w.heap.size + 1) (rlc r v')).cell? ⟨g, 0 + j * 1 + 0, none⟩ = some u
        rw [cell_of_row _ _ _ _ _ _ ((oth g (by omega)).trans h1)]; simpa using hu'
      clear hCp hnz hao hnc hu hs0 hg0
      go_wp2_with (first
        | (refine ldMid 35 (.tmp 1) rfl rfl w.heap.size 0 rfl (rlc r v') _ Tryz.underlying35 rfl (by rw [rc_size]; kernel_rfl) HRg.out ?_)
        | (refine stRow 35 (.tmp 2) (.tmp 24) rfl rfl (w.heap.size + 1) (rlc r v') rfl rfl 35 (rc 0 zf nilS 0) HR.out.res (by rw [rc_size]; kernel_rfl) (by rw [rc_size, rc_size]) hv1 ?_))
      exact bodyPost_ret (v := .agg (rlc r v')) (results_cell_row Tryz.results37 _ _ (w.heap.size + 1) 35 _ (0, 0) _ rfl HWr.out Tryz.underlying35 rfl (by rw [rc_size]; kernel_rfl)) rfl HE.out
end Go.Proofs.YtdehlnaoehjehaaGreatDoor
